/- Slices of elements of k cells each that the call made itself; whatever the element, its cells hold no address. -/
import Derived.Test.YtckpifcdlmfabaaPgV
import Derived.Test.YtckpifcdlmfabaaPgM
namespace Go.Proofs.Ytckpifcdlmfabaa
open Go.RowKit Go.Lib

section
variable {α : Type} (enc : α → List Value) (k : Nat)
theorem flatE_len (hk : ∀ x, (enc x).length = k) : ∀ l : List α, (l.flatMap enc).length = l.length * k
  | [] => by simp
  | x :: l => by rw [List.flatMap_cons, List.length_append, hk, flatE_len hk l, List.length_cons, Nat.succ_mul]; omega
theorem flatE_get (hk : ∀ x, (enc x).length = k) : ∀ (l : List α) (j c : Nat) (h : j < l.length) (_ : c < k), (l.flatMap enc)[j * k + c]? = (enc l[j])[c]?
  | [], j, c, h, _ => by simp at h
  | x :: l, 0, c, h, hc => by rw [List.flatMap_cons, Nat.zero_mul, Nat.zero_add, List.getElem?_append_left (by rw [hk]; exact hc)]; rfl
  | x :: l, j + 1, c, h, hc => by
    rw [List.flatMap_cons, List.getElem?_append_right (by rw [hk, Nat.succ_mul]; omega), hk, show (j + 1) * k + c - k = j * k + c by rw [Nat.succ_mul]; omega, flatE_get hk l j c (by simpa using h) hc]; rfl
theorem flatE_take (hk : ∀ x, (enc x).length = k) : ∀ (l : List α) (n : Nat), (l.flatMap enc).take (n * k) = (l.take n).flatMap enc
  | [], n => by simp
  | x :: l, 0 => by simp
  | x :: l, n + 1 => by
    rw [List.flatMap_cons, List.take_succ_cons, List.flatMap_cons, List.take_append, hk, show (n + 1) * k - k = n * k by rw [Nat.succ_mul]; omega, flatE_take hk l n, List.take_of_length_le (by rw [hk, Nat.succ_mul]; omega)]
theorem flatE_drop (hk : ∀ x, (enc x).length = k) : ∀ (l : List α) (n : Nat), (l.flatMap enc).drop (n * k) = (l.drop n).flatMap enc
  | [], n => by simp
  | x :: l, 0 => by simp
  | x :: l, n + 1 => by
    rw [List.flatMap_cons, List.drop_succ_cons, List.drop_append, hk, show (n + 1) * k - k = n * k by rw [Nat.succ_mul]; omega, flatE_drop hk l n, List.drop_of_length_le (by rw [hk, Nat.succ_mul]; omega), List.nil_append]

/-- The elements l lie at v, in a block of the call's own between lo and hi. -/
def OwE (T : TypeId) (lo hi : Nat) (w : World) (v : Value) (l : List α) : Prop := w.ownsRow lo T k v l.length (l.flatMap enc) ∧ ∀ b, v.ownBlock = some b → b < hi
variable {enc : α → List Value} {k : Nat} {T : TypeId} {lo hi : Nat} {w w' : World} {v : Value} {l : List α}
theorem ownsK_kept {a b n : Nat} {xs : List Value} (h : w.ownsRow lo T k v n xs) (hv : ∀ b, v.ownBlock = some b → b < hi) (hk : Kept a b w w') (hd : hi ≤ a ∨ b ≤ lo) : w'.ownsRow lo T k v n xs := by
  obtain ⟨h1, h2⟩ := h
  refine ⟨h1, ?_⟩
  rcases h2 with h2 | ⟨g, cap, cur, rfl, hg, hh, hr⟩
  · exact .inl h2
  · have := hv g rfl
    exact .inr ⟨g, cap, cur, rfl, hg, by rw [hk.block g (lt_of_heap hh) (by omega)]; exact hh, hr⟩
theorem OwE.kept {a b : Nat} (h : OwE enc k T lo hi w v l) (hk : Kept a b w w') (hd : hi ≤ a ∨ b ≤ lo) : OwE enc k T lo hi w' v l := ⟨ownsK_kept h.1 h.2 hk hd, h.2⟩
theorem OwE.below (h : OwE enc k T lo hi w v l) (hb : Below w.heap.size w w') : OwE enc k T lo hi w' v l :=
  h.kept (Kept.of_below (lo := hi) (hi := hi) hb) (.inl (Nat.le_refl _))
theorem OwE.mono {lo' hi' : Nat} (h : OwE enc k T lo hi w v l) (h1 : lo' ≤ lo) (h2 : hi ≤ hi') : OwE enc k T lo' hi' w v l :=
  ⟨Go.Joins.ownsRow_le h.1 h1, fun b hb => Nat.lt_of_lt_of_le (h.2 b hb) h2⟩
theorem OwE.grown {r : Option Nat} (h : OwE enc k T lo hi w v l) (hg : w.grownBy w' r) (hne : ∀ b, v.ownBlock = some b → r ≠ some b) : OwE enc k T lo hi w' v l := by
  obtain ⟨⟨h1, h2⟩, h3⟩ := h
  refine ⟨⟨h1, ?_⟩, h3⟩
  rcases h2 with h2 | ⟨g, cap, cur, rfl, hg', hh, hr⟩
  · exact .inl h2
  · exact .inr ⟨g, cap, cur, rfl, hg', by rw [hg.block g (lt_of_heap hh) (fun e => hne g rfl e.symm)]; exact hh, hr⟩
theorem OwE.nil : OwE enc k T lo hi w (.slice none 0 0) ([] : List α) := ⟨World.ownsRow_nil _ _ _ _, fun b hb => by cases hb⟩
theorem OwE.shape (h : OwE enc k T lo hi w v l) : ∃ (a : Option Addr) (c : Nat), v = .slice a l.length c ∧ l.length ≤ c ∧ c ≤ maxLen := owns_slice h.1
/-- Element j: its cells. -/
theorem OwE.at (hk : ∀ x, (enc x).length = k) (h : OwE enc k T lo hi w v l) (j : Nat) (hj : j < l.length) (k0 : 0 < k) {a : Option Addr} {n c : Nat} (hv : v = .slice a n c) :
    ∃ b : Nat, a = some ⟨b, 0, none⟩ ∧ n = l.length ∧ lo ≤ b ∧ b < hi ∧ b < w.heap.size ∧ l.length ≤ c ∧ (∀ i, i < k → w.cell? ⟨b, j * k + i, none⟩ = (enc l[j])[i]?) ∧ ∀ i, w.frozen? ⟨b, i, none⟩ = false := by
  obtain ⟨k2, k3⟩ := h
  obtain ⟨g, cap, e1⟩ := Go.Joins.ownsRow_form k2 (by omega)
  subst e1
  simp only [Value.slice.injEq] at hv
  obtain ⟨rfl, rfl, rfl⟩ := hv
  have hlt := k2.lt g rfl
  have hc : l.length ≤ cap := by
    rcases k2.2 with ⟨k7, _⟩ | ⟨g', cap', cur, e2, _, _, k9, _⟩
    · cases k7
    · simp only [Value.slice.injEq] at e2
      rw [e2.2.2]; exact k9
  refine ⟨g, rfl, rfl, hlt.1, k3 g rfl, hlt.2, hc, fun i hi => ?_, fun i => k2.frozenAt i⟩
  have hb : j * k + i < l.length * k := by
    have := Nat.mul_le_mul_right k (show j + 1 ≤ l.length from hj)
    rw [Nat.succ_mul] at this; omega
  rw [k2.cellAt _ hb, flatE_get enc k hk l j i hj hi]
/-- The first m elements. -/
theorem OwE.cut (hk : ∀ x, (enc x).length = k) {g n c m : Nat} (h : OwE enc k T lo hi w (.slice (some ⟨g, 0, none⟩) n c) l) (hm : m ≤ l.length) : OwE enc k T lo hi w (.slice (some ⟨g, 0, none⟩) m c) (l.take m) := by
  obtain ⟨h1, h2⟩ := h
  obtain ⟨g', cap, e1, _⟩ := owns_slice h1
  simp only [Value.slice.injEq] at e1
  obtain ⟨_, rfl, _⟩ := e1
  have h3 := ownsCut h1 hm
  rw [flatE_take enc k hk] at h3
  refine ⟨by rw [List.length_take, Nat.min_eq_left hm]; exact h3, fun b hb => h2 b hb⟩
end

/-- The cells of a point. -/
def encP (p : P2) : List Value := [.int .i64 p.1, .int .i64 p.2, .int .i64 0]
theorem encP_len (p : P2) : (encP p).length = 3 := rfl
theorem encP_one (p : P2) : ∀ v ∈ encP p, v.oneCell' = true := by
  intro v hv
  simp only [encP, List.mem_cons, List.not_mem_nil, or_false] at hv
  rcases hv with rfl | rfl | rfl <;> rfl
theorem flatP_one (l : List P2) : ∀ v ∈ l.flatMap encP, v.oneCell' = true := by
  intro v hv
  obtain ⟨p, _, h⟩ := List.mem_flatMap.1 hv
  exact encP_one p v h
theorem info_nums : (Try.prog.info? 57).map (fun i => (i.zero, i.size, i.bytes)) = some (some (.agg #[.int .i64 0, .int .i64 0, .int .i64 0]), 3, 24) := by kernel_rfl
abbrev OwP (lo hi : Nat) (w : World) (v : Value) (l : List P2) : Prop := OwE encP 3 57 lo hi w v l
theorem OwE.at3 {lo hi : Nat} {w : World} {v : Value} {l : List P2} (h : OwP lo hi w v l) (j : Nat) (hj : j < l.length) {a : Option Addr} {n c : Nat} (hv : v = .slice a n c) :
    ∃ b : Nat, a = some ⟨b, 0, none⟩ ∧ n = l.length ∧ lo ≤ b ∧ b < hi ∧ b < w.heap.size ∧ l.length ≤ c ∧ (w.cell? ⟨b, j * 3, none⟩ = some (.int .i64 l[j].1) ∧ w.cell? ⟨b, j * 3 + 1, none⟩ = some (.int .i64 l[j].2) ∧ w.cell? ⟨b, j * 3 + 2, none⟩ = some (.int .i64 0)) ∧ ∀ i, w.frozen? ⟨b, i, none⟩ = false := by
  obtain ⟨b, h1, h2, h3, h4, h5, h6, h7, h8⟩ := OwE.at encP_len h j hj (by omega) hv
  exact ⟨b, h1, h2, h3, h4, h5, h6, ⟨h7 0 (by omega), h7 1 (by omega), h7 2 (by omega)⟩, h8⟩
theorem flatP_put : ∀ (l : List P2) (j : Nat) (p : P2), (((l.flatMap encP).set (j * 3) (.int .i64 p.1)).set (j * 3 + 1) (.int .i64 p.2)).set (j * 3 + 2) (.int .i64 0) = (l.set j p).flatMap encP
  | [], j, p => by simp
  | x :: l, 0, p => by simp [encP]
  | x :: l, j + 1, p => by
    have ih := flatP_put l j p
    rw [show (j + 1) * 3 = j * 3 + 1 + 1 + 1 from by omega]
    simp only [List.flatMap_cons, encP, List.cons_append, List.nil_append, List.set_cons_succ, show j * 3 + 1 + 1 + 1 + 1 = j * 3 + 1 + 1 + 1 + 1 from rfl, show j * 3 + 1 + 1 + 1 + 2 = j * 3 + 2 + 1 + 1 + 1 from rfl, ← ih]
/-- A point is stored at place j. -/
theorem OwE.put3 {lo hi : Nat} {w : World} {b n c : Nat} {l : List P2} (h : OwP lo hi w (.slice (some ⟨b, 0, none⟩) n c) l) (j : Nat) (hj : j < l.length) (p : P2) :
    OwP lo hi (((w.setCell ⟨b, j * 3, none⟩ (.int .i64 p.1)).setCell ⟨b, j * 3 + 1, none⟩ (.int .i64 p.2)).setCell ⟨b, j * 3 + 2, none⟩ (.int .i64 0)) (.slice (some ⟨b, 0, none⟩) n c) (l.set j p) := by
  obtain ⟨k2, k3⟩ := h
  obtain ⟨g, cap, e1⟩ := Go.Joins.ownsRow_form k2 (by omega)
  simp only [Value.slice.injEq, Option.some.injEq, Addr.mk.injEq] at e1
  obtain ⟨⟨rfl, _, _⟩, rfl, rfl⟩ := e1
  have hst := ((((k2.stored (j * 3) (.int .i64 p.1)).1).stored (j * 3 + 1) (.int .i64 p.2)).1.stored (j * 3 + 2) (.int .i64 0)).1
  rw [flatP_put l j p] at hst
  exact ⟨by rw [List.length_set]; exact hst, k3⟩
theorem made_zerosP (n : Nat) : (madeCells #[.int .i64 0, .int .i64 0, .int .i64 0] (n * 3)).toList = (List.replicate n ((0, 0) : P2)).flatMap encP := by
  refine List.ext_getElem? fun i => ?_
  have hl := flatE_len encP 3 encP_len (List.replicate n ((0, 0) : P2))
  rw [List.length_replicate] at hl
  by_cases hi : i < n * 3
  · have e1 : (madeCells #[.int .i64 0, .int .i64 0, .int .i64 0] (n * 3)).toList[i]? = some ((#[Value.int .i64 0, .int .i64 0, .int .i64 0] : Array Value)[i % 3]!) := by
      unfold madeCells
      rw [Array.getElem?_toList, Array.getElem?_map]
      simp [hi]
    have hj : i / 3 < (List.replicate n ((0, 0) : P2)).length := by simp; omega
    have g := fun c hc => flatE_get encP 3 encP_len (List.replicate n ((0, 0) : P2)) (i / 3) c hj hc
    simp only [List.getElem_replicate] at g
    rw [e1]
    have h3 : i % 3 < 3 := Nat.mod_lt _ (by omega)
    rcases (by omega : i % 3 = 0 ∨ i % 3 = 1 ∨ i % 3 = 2) with h | h | h <;> rw [h]
    · rw [show i = i / 3 * 3 + 0 by omega, g 0 (by omega)]; rfl
    · rw [show i = i / 3 * 3 + 1 by omega, g 1 (by omega)]; rfl
    · rw [show i = i / 3 * 3 + 2 by omega, g 2 (by omega)]; rfl
  · rw [List.getElem?_eq_none (by rw [Array.length_toList, size_madeCells]; omega), List.getElem?_eq_none (by rw [hl]; omega)]
theorem OwE.zeros3 {base lo hi : Nat} {w : World} {b n : Nat} (h : w.ownsRow base 57 3 (.slice (some ⟨b, 0, none⟩) n n) n (madeCells #[.int .i64 0, .int .i64 0, .int .i64 0] (n * 3)).toList) (hlo : lo ≤ base) (hhi : b < hi) : OwP lo hi w (.slice (some ⟨b, 0, none⟩) n n) (List.replicate n (0, 0)) := by
  rw [made_zerosP] at h
  refine ⟨?_, fun x hx => (show b = x by simpa [Value.ownBlock] using hx) ▸ hhi⟩
  rw [List.length_replicate]
  exact Go.Joins.ownsRow_le h hlo
end Go.Proofs.Ytckpifcdlmfabaa
