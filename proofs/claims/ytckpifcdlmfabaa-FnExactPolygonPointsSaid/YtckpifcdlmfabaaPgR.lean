/- Slices of points whose rows lie in memory of before. -/
import Derived.Test.YtckpifcdlmfabaaPgV
import Derived.Test.YtckpifcdlmfabaaPgM
import Derived.Test.YtckpifcdlmfabaaRw
namespace Go.Proofs.Ytckpifcdlmfabaa
open Go.RowKit Go.Lib

/-- v lies in a block of its own from lo on; its rows are those of before, in w0, and read as pts. -/
def RdO (w0 : World) (lo : Nat) (w : World) (v : Value) (pts : List P2) : Prop :=
  ∃ vs : List Value, vs.length = pts.length ∧ OwnV 46 lo w.heap.size w v vs ∧ ∀ (i : Nat) x p, vs[i]? = some x → pts[i]? = some p → Sl w0 x (intVals (rowOf p))
theorem RdO.below {w0 w w' : World} {lo : Nat} {v : Value} {pts : List P2} (h : RdO w0 lo w v pts) (hb : Below w.heap.size w w') : RdO w0 lo w' v pts := by
  obtain ⟨vs, h1, h2, h3⟩ := h
  exact ⟨vs, h1, (h2.below hb).mono (Nat.le_refl _) hb.size, h3⟩
theorem RdO.shape {w0 w : World} {lo : Nat} {v : Value} {pts : List P2} (h : RdO w0 lo w v pts) : ∃ (a : Option Addr) (c : Nat), v = .slice a pts.length c ∧ pts.length ≤ c ∧ c ≤ maxLen := by
  obtain ⟨vs, h1, h2, _⟩ := h
  have := owns_slice h2.owns
  rwa [h1] at this
theorem RdO.rw {w0 w : World} {lo : Nat} {v : Value} {pts : List P2} (h : RdO w0 lo w v pts) (hb : Below w0.heap.size w0 w) : Rw w v (pts.map rowOf) := by
  obtain ⟨vs, h1, h2, h3⟩ := h
  refine ⟨vs, by rw [h1, List.length_map], h2.sl, fun i u zs hu hz => ?_⟩
  rw [List.getElem?_map] at hz
  cases hp : pts[i]? with
  | none => rw [hp] at hz; cases hz
  | some p =>
    rw [hp] at hz
    obtain rfl := Option.some.inj hz
    exact (h3 i u p hu hp).below hb
/-- Row j: its cell, its numbers. -/
theorem RdO.at {w0 w : World} {lo : Nat} {pts : List P2} {a : Option Addr} {n c : Nat} (h : RdO w0 lo w (.slice a n c) pts) (j : Nat) (hj : j < pts.length) :
    ∃ (b : Nat) (x : Value), a = some ⟨b, 0, none⟩ ∧ lo ≤ b ∧ b < w.heap.size ∧ w.cell? ⟨b, j, none⟩ = some x ∧ Sl w0 x (intVals (rowOf pts[j])) := by
  obtain ⟨vs, h1, h2, h3⟩ := h
  obtain ⟨b, cap, e1, hb1, hb2⟩ := h2.form (by omega)
  simp only [Value.slice.injEq] at e1
  obtain ⟨rfl, rfl, rfl⟩ := e1
  have hu : vs[j]? = some vs[j] := List.getElem?_eq_getElem (by omega)
  exact ⟨b, vs[j], rfl, hb1, hb2, by rw [h2.owns.cellAt j (by omega)]; exact hu, h3 j _ _ hu (List.getElem?_eq_getElem hj)⟩
/-- The first m rows. -/
theorem RdO.cut {w0 w : World} {lo : Nat} {pts : List P2} {g n c m : Nat} (h : RdO w0 lo w (.slice (some ⟨g, 0, none⟩) n c) pts) (hm : m ≤ pts.length) : RdO w0 lo w (.slice (some ⟨g, 0, none⟩) m c) (pts.take m) := by
  obtain ⟨vs, h1, h2, h3⟩ := h
  have ho := h2.owns
  have hf := owns_slice ho
  obtain ⟨_, _, e1, _⟩ := hf
  simp only [Value.slice.injEq] at e1
  obtain ⟨_, rfl, _⟩ := e1
  have h4 := ownsCut (m := m) ho (by omega)
  rw [Nat.mul_one] at h4
  refine ⟨vs.take m, by rw [List.length_take, List.length_take]; omega, OwnV.of_owns h4, fun i x p hx hp => ?_⟩
  rw [List.getElem?_take] at hx hp
  split at hx
  · rename_i hi
    rw [if_pos hi] at hp
    exact h3 i x p hx hp
  · cases hx
theorem RdO.empty {w0 w : World} {lo : Nat} (hb : lo ≤ w.heap.size) : RdO w0 lo (w.alloc (.cells #[] 46)) (.slice (some ⟨w.heap.size, 0, none⟩) 0 0) [] :=
  ⟨[], rfl, OwnV.of_owns ((owns_none (e := 46) (Nat.le_refl w.heap.size)) |> fun h => Go.Joins.ownsRow_le h hb), fun i x p hx => by simp at hx⟩
/-- append(out, row) at a plain list of operations. -/
theorem list_app_pt {ops : Array Oper} {rest : List Oper} {o : Oper} {a : Act} {w : World} {Q : Exit → Act → World → Prop} (hgd : o.guard = none) (s x : Operand)
    (ho : o.op = .call { callee := .builtin .append, args := #[s, x], argTypes := #[38, 38] })
    (w0 : World) (lo : Nat) (v u : Value) (pts : List P2) (p : P2) (hs : a.eval s = v) (hown : RdO w0 lo w v pts) (hu : Sl w0 u (intVals (rowOf p)))
    (H : Nat) (hx : a.eval x = .slice (some ⟨H, 0, none⟩) 1 1) (hnew : w.heap[H]? = some (.cells #[u] 46 (0, 0)))
    (hn : pts.length ≤ 1048576) (hm : lo ≤ w.heap.size)
    (h : ∀ g cap w', RdO w0 lo w' (.slice (some ⟨g, 0, none⟩) (pts.length + 1) cap) (pts ++ [p]) → Below lo w w' → wpList Try.prog ops Q rest (a.put o.dst (.slice (some ⟨g, 0, none⟩) (pts.length + 1) cap)) w') :
    wpList Try.prog ops Q (o :: rest) a w := by
  obtain ⟨i0, hi, hz0, hz1, hz2⟩ := info_parts info_row
  obtain ⟨vs, h1, h2, h3⟩ := hown
  have hone : ∀ q ∈ [u], q.oneCell' = true := fun q hq => by
    rw [List.mem_singleton.1 hq]
    obtain ⟨ad, cp, rfl, _⟩ := hu.shape
    rfl
  refine wpList_append_lies w hgd s x 38 ho lo 46 i0 _ 1 24 Try.underlying38 hi hz0 hz1 hz2 rfl (by omega) v vs.length vs hs h2.owns ⟨H, 0, none⟩ 1 1 [u] hx rfl (World.news_of_block (cs := #[u]) hnew) hone (by omega) (by unfold maxLen; omega) (by omega) hm w.heap.size rfl ?_
  intro g cap w' k1 k2 k3 k4
  rw [h1] at k1 ⊢
  refine h g cap w' ⟨vs ++ [u], by rw [List.length_append, List.length_append, h1]; rfl, OwnV.of_owns (n := pts.length + 1) k1, fun i y q hy hq => ?_⟩ ((Below.refl lo w).grown k2 hm (fun q hq => (h2.place hq).1))
  by_cases hi : i < vs.length
  · rw [List.getElem?_append_left hi] at hy
    rw [List.getElem?_append_left (by omega)] at hq
    exact h3 i y q hy hq
  · have hl := lt_of_get hy
    rw [List.length_append, List.length_singleton] at hl
    rw [List.getElem?_append_right (by omega), show i - vs.length = 0 by omega] at hy
    rw [List.getElem?_append_right (by omega), show i - pts.length = 0 by omega] at hq
    obtain rfl : u = y := by simpa using hy
    obtain rfl : p = q := by simpa using hq
    exact hu
end Go.Proofs.Ytckpifcdlmfabaa
