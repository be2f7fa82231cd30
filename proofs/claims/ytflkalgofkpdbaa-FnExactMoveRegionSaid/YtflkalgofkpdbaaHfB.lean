/- append at an operation of a region: a half behind halves, numbers behind numbers. -/
import Derived.Test.YtflkalgofkpdbaaHfCame
import Derived.Test.YtflkalgofkpdbaaVecT
import Derived.Test.YtflkalgofkpdbaaOrd
import Derived.Deep.RegionHeld3
namespace Go.Proofs.Ytflkalgofkpdbaa
open Go.RowKit Go.Lib

theorem Kept.cellAt {lo hi : Nat} {w w' : World} (h : Kept lo hi w w') {p : Addr} (hp : p.block < w.heap.size) (ho : p.block < lo ∨ hi ≤ p.block) : w'.cell? p = w.cell? p := World.cell?_of_block (h.block p.block hp ho)
/-- append(halves, half) at an operation. -/
theorem wp_app_half {o : Oper} {a : Act} {w : World} {K : Act → World → Prop} {Q : Exit → Act → World → Prop} (s x : Operand)
    (ho : o.op = .call { callee := .builtin .append, args := #[s, x], argTypes := #[36, 36] })
    (base m : Nat) (v u : Value) (hs : List Hf) (h : Hf) (hv : a.eval s = v) (hown : OwH 27 3 base m w v hs) (hu : OwnV 3 m w.heap.size w u (intVals h.1))
    (H : Nat) (hx : a.eval x = .slice (some ⟨H, 0, none⟩) 1 1) (hnew : w.heap[H]? = some (.cells #[u, .int .i64 h.2] 27 (0, 0)))
    (hn : hs.length ≤ 1099511627776) (hbm : base ≤ m) (hm : m ≤ w.heap.size)
    (k : ∀ g cap w', OwH 27 3 base w'.heap.size w' (.slice (some ⟨g, 0, none⟩) (hs.length + 1) cap) (hs ++ [h]) → Kept base m w w' → K (a.put o.dst (.slice (some ⟨g, 0, none⟩) (hs.length + 1) cap)) w') :
    o.wp Try.prog a w K Q := by
  obtain ⟨i0, hi, hz0, hz1, hz2⟩ := info_parts info_half
  have hown' := hown
  obtain ⟨us, h1, h2, h3, h4, h5, h6⟩ := hown
  refine wp_append_lies w s x 36 ho base 27 i0 _ 2 32 Try.underlying36 hi hz0 hz1 hz2 rfl (by omega) v hs.length (flat us hs) hv h2 ⟨H, 0, none⟩ 1 1 [u, .int .i64 h.2] hx rfl (World.news_of_block (cs := #[u, .int .i64 h.2]) hnew) (fun q hq => by
      simp only [List.mem_cons, List.not_mem_nil, or_false] at hq
      rcases hq with rfl | rfl
      · exact own_one hu
      · rfl) (by omega) (by unfold maxLen; omega) (by omega) (by omega) w.heap.size rfl ?_
  intro g cap w' k1 k2 k3 k4
  refine k g cap w' ?_ ⟨k2.os, k2.tape, k2.output, k2.size, fun j hj ho => k2.block j hj fun e => ?_⟩
  · refine hown'.snoc hu hbm hm ⟨h1, h2, h4, h5, h6⟩ h3 k1 k2 ?_
    intro b hb
    have hgb : g = b := by simpa [Value.ownBlock] using hb
    subst hgb
    rcases k3 with h | h
    · exact .inl h
    · exact .inr (by omega)
  · have := (h2.lt j e.symm).1
    have := h3 j e.symm
    omega

/-- append(out, ys...) at an operation: the source any slice that reads as a list with a number at least. -/
theorem wp_app_ints {o : Oper} {a : Act} {w : World} {K : Act → World → Prop} {Q : Exit → Act → World → Prop} (s x : Operand)
    (ho : o.op = .call { callee := .builtin .append, args := #[s, x], argTypes := #[22, 22] })
    (base : Nat) (v : Value) (xs ys : List Int) (u : Value) (hs : a.eval s = v) (hown : w.ownsRow base 3 1 v xs.length (intVals xs))
    (hx : a.eval x = u) (hu : Sl w u (intVals ys)) (h0 : 0 < ys.length)
    (hn : xs.length + ys.length ≤ 1099511627776) (hbase : base ≤ w.heap.size)
    (h : ∀ v' w', w'.ownsRow base 3 1 v' (xs ++ ys).length (intVals (xs ++ ys)) → Below base w w' → K (a.put o.dst v') w') : o.wp Try.prog a w K Q := by
  obtain ⟨i0, hi, hz0, hz1, hz2⟩ := info_parts info_int'
  have happ : intVals (xs ++ ys) = intVals xs ++ intVals ys := by simp [intVals]
  obtain ⟨ad, c, rfl, _, hopen⟩ := hu.shape
  rw [intVals_len] at hopen hx hu
  obtain ⟨b, off, rfl, hc, hlt, hcell⟩ := hopen h0
  obtain ⟨hl, hc2⟩ := hu.addr
  refine wp_append_own w s x 22 ho base 3 i0 _ 1 8 Try.underlying22 hi hz0 hz1 hz2 rfl (by omega) v xs.length _ hs hown ⟨b, off, none⟩ ys.length c (intVals ys) hx (by rw [hl, Nat.mul_one]) hc2 (by intro q hq; obtain ⟨z, _, rfl⟩ := List.mem_map.1 hq; rfl) (by unfold maxLen; omega) (by omega) hbase ?_
  intro v' w' h1 h2 _
  refine h v' w' (by rw [happ, List.length_append]; exact h1) ((Below.refl base w).grown h2 hbase ?_)
  intro k hk
  exact (hown.lt k hk).1
end Go.Proofs.Ytflkalgofkpdbaa
