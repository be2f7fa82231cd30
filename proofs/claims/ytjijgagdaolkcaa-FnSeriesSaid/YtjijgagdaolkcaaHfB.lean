/- append at an operation of a region: a half behind halves, numbers behind numbers. -/
import Derived.Test.YtjijgagdaolkcaaMam
import Derived.Test.YtjijgagdaolkcaaMaj
import Derived.Test.YtjijgagdaolkcaaOrd
import Derived.Deep.RegionHeld3
namespace Go.Proofs.Ytjijgagdaolkcaa
open Go.RowKit Go.Lib

theorem Kept.cellAt {lo hi : Nat} {w w' : World} (h : Kept lo hi w w') {p : Addr} (hp : p.block < w.heap.size) (ho : p.block < lo ∨ hi ≤ p.block) : w'.cell? p = w.cell? p := World.cell?_of_block (h.block p.block hp ho)
theorem Bk.grown {w w' : World} {b : Nat} {cs : Array Value} {T : TypeId} {r : Option Nat} (h : Bk w b cs T) (hg : w.grownBy w' r) (hne : some b ≠ r) : Bk w' b cs T := (hg.block b h.lt hne).trans h
/-- A block of another type is none of the halves' own. -/
theorem OwH.ne {T e R : TypeId} {lo hi B : Nat} {w : World} {v : Value} {hs : List Hf} {cs : Array Value} (h : OwH T e lo hi w v hs) (hB : Bk w B cs R) (h1 : R ≠ T) : some B ≠ v.ownBlock := by
  obtain ⟨us, k1, k2, _⟩ := h
  intro e1
  rcases k2.2 with ⟨rfl, _⟩ | ⟨g, cap, cur, rfl, hg, hh, _⟩
  · cases e1
  · obtain rfl : B = g := by simpa [Value.ownBlock] using e1
    rw [hB] at hh
    simp only [Option.some.injEq, Obj.cells.injEq] at hh
    exact h1 hh.2.1
theorem OwnV.other {e R : TypeId} {lo hi : Nat} {w : World} {v : Value} {xs : List Value} {cs : Array Value} (h : OwnV e lo hi w v xs) {p : Addr} (hB : Bk w p.block cs R) (h1 : R ≠ e) (u : Value) : OwnV e lo hi (w.setCell p u) v xs := by
  rcases h with h | ⟨g, cap, cur, rfl, h2, h3, hb, hr⟩
  · exact .inl h
  · refine .inr ⟨g, cap, cur, rfl, h2, h3, ?_, hr⟩
    rw [Below.heap_setCell _ _ _ _ (fun e1 => by
      subst e1
      rw [hB] at hb
      simp only [Option.some.injEq, Obj.cells.injEq] at hb
      exact h1 hb.2.1)]
    exact hb
/-- A store into a block of another type. -/
theorem OwH.other {T e R : TypeId} {lo hi : Nat} {w : World} {v : Value} {hs : List Hf} {cs : Array Value} (h : OwH T e lo hi w v hs) {p : Addr} (hB : Bk w p.block cs R) (h1 : R ≠ T) (h2 : R ≠ e) (u : Value) : OwH T e lo hi (w.setCell p u) v hs := by
  have hne := h.ne hB h1
  obtain ⟨us, k1, k2, k3, k4, k5, k6⟩ := h
  refine ⟨us, k1, ⟨k2.1, ?_⟩, k3, fun i x y hx hy => (k4 i x y hx hy).other hB h2 u, k5, k6⟩
  rcases k2.2 with h0 | ⟨g, cap, cur, rfl, hg, hh, hr⟩
  · exact .inl h0
  · exact .inr ⟨g, cap, cur, rfl, hg, by rw [Below.heap_setCell _ _ _ _ (fun e1 => hne (by rw [← e1]; rfl))]; exact hh, hr⟩
/-- append(out, ys...) at an operation: the source any slice that reads as a list with a number at least. -/
theorem wp_app_ints {o : Oper} {a : Act} {w : World} {K : Act → World → Prop} {Q : Exit → Act → World → Prop} (s x : Operand)
    (ho : o.op = .call { callee := .builtin .append, args := #[s, x], argTypes := #[24, 24] })
    (base : Nat) (v : Value) (xs ys : List Int) (u : Value) (hs : a.eval s = v) (hown : w.ownsRow base 3 1 v xs.length (intVals xs))
    (hx : a.eval x = u) (hu : Sl w u (intVals ys)) (h0 : 0 < ys.length)
    (hn : xs.length + ys.length ≤ 1099511627776) (hbase : base ≤ w.heap.size)
    (h : ∀ v' w', w'.ownsRow base 3 1 v' (xs ++ ys).length (intVals (xs ++ ys)) → Below base w w' → K (a.put o.dst v') w') : o.wp Try.prog a w K Q := by
  obtain ⟨i0, hi, hz0, hz1, hz2⟩ := info_parts info_int'
  have happ : intVals (xs ++ ys) = intVals xs ++ intVals ys := by simp [intVals]
  obtain ⟨ad, c, rfl, _, hopen⟩ := hu.shape
  rw [intVals_len] at hopen hx hu
  obtain ⟨b, off, rfl, hc, hlt, hcell⟩ := hopen h0
  obtain ⟨hl, hc2⟩ := hu.addr
  refine wp_append_own w s x 24 ho base 3 i0 _ 1 8 Try.underlying24 hi hz0 hz1 hz2 rfl (by omega) v xs.length _ hs hown ⟨b, off, none⟩ ys.length c (intVals ys) hx (by rw [hl, Nat.mul_one]) hc2 (by intro q hq; obtain ⟨z, _, rfl⟩ := List.mem_map.1 hq; rfl) (by unfold maxLen; omega) (by omega) hbase ?_
  intro v' w' h1 h2 _
  refine h v' w' (by rw [happ, List.length_append]; exact h1) ((Below.refl base w).grown h2 hbase ?_)
  intro k hk
  exact (hown.lt k hk).1
end Go.Proofs.Ytjijgagdaolkcaa
