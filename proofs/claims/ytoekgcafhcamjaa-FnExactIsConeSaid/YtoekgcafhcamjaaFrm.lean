/- What a step may change: blocks from lo to hi alone; rows of values in blocks of their own. -/
import Derived.Test.YtoekgcafhcamjaaCom
import Derived.Test.YtoekgcafhcamjaaSl
namespace Go.Proofs.Ytoekgcafhcamjaa
open Go Go.RowKit

/-- Outside of the blocks from lo to hi (hi not among them) w' is as w was. -/
structure Kept (lo hi : Nat) (w w' : World) : Prop where
  os : w'.os = w.os
  tape : w'.tape = w.tape
  output : w'.output = w.output
  size : w.heap.size ≤ w'.heap.size
  block : ∀ k, k < w.heap.size → (k < lo ∨ hi ≤ k) → w'.heap[k]? = w.heap[k]?

theorem Kept.refl (lo hi : Nat) (w : World) : Kept lo hi w w := ⟨rfl, rfl, rfl, Nat.le_refl _, fun _ _ _ => rfl⟩
theorem Kept.trans {lo hi : Nat} {a b c : World} (h : Kept lo hi a b) (k : Kept lo hi b c) : Kept lo hi a c :=
  ⟨k.os.trans h.os, k.tape.trans h.tape, k.output.trans h.output, Nat.le_trans h.size k.size, fun i hi ho => (k.block i (Nat.lt_of_lt_of_le hi h.size) ho).trans (h.block i hi ho)⟩
theorem Kept.mono {lo hi lo' hi' : Nat} {w w' : World} (h : Kept lo hi w w') (h1 : lo' ≤ lo) (h2 : hi ≤ hi') : Kept lo' hi' w w' :=
  ⟨h.os, h.tape, h.output, h.size, fun k hk ho => h.block k hk (by omega)⟩
theorem Kept.of_below {lo hi : Nat} {w w' : World} (h : Below w.heap.size w w') : Kept lo hi w w' :=
  ⟨h.os, h.tape, h.output, h.size, fun k hk _ => h.block k hk⟩
theorem Kept.below {lo hi B : Nat} {w w' : World} (h : Kept lo hi w w') (hB : B ≤ lo) (hs : B ≤ w.heap.size) : Below B w w' :=
  ⟨h.os, h.tape, h.output, h.size, fun k hk => h.block k (by omega) (.inl (by omega))⟩
theorem Kept.setCell {lo hi : Nat} {a w : World} (h : Kept lo hi a w) {p : Addr} (h1 : lo ≤ p.block) (h2 : p.block < hi) (u : Value) : Kept lo hi a (w.setCell p u) :=
  h.trans ⟨rfl, rfl, rfl, by simp [World.setCell], fun k _ ho => Below.heap_setCell _ _ _ _ (by omega)⟩
theorem Kept.then_below {lo hi : Nat} {a b c : World} (h : Kept lo hi a b) (k : Below b.heap.size b c) : Kept lo hi a c := h.trans (Kept.of_below k)
theorem Kept.andB {lo hi : Nat} {a b c : World} (h : Kept lo hi a b) (k : Below a.heap.size b c) : Kept lo hi a c :=
  ⟨k.os.trans h.os, k.tape.trans h.tape, k.output.trans h.output, Nat.le_trans h.size k.size, fun i hi' ho => (k.block i hi').trans (h.block i hi' ho)⟩
theorem Kept.drew {lo hi : Nat} {a w : World} (h : Kept lo hi a w) (n : Nat) : Kept lo hi a (w.drewN n) := ⟨h.os, h.tape, h.output, h.size, h.block⟩

/-- v is a row of values in a block of its own between lo and hi, and reads as xs. -/
def OwnV (e : TypeId) (lo hi : Nat) (w : World) (v : Value) (xs : List Value) : Prop :=
  (xs = [] ∧ v = .slice none 0 0) ∨ ∃ (g cap : Nat) (cur : Array Value), v = .slice (some ⟨g, 0, none⟩) xs.length cap ∧ lo ≤ g ∧ g < hi ∧ w.heap[g]? = some (.cells cur e (0, 0)) ∧ xs.length ≤ cap ∧ cap ≤ maxLen ∧ cur.size = cap ∧ cur.toList.take xs.length = xs

theorem lt_of_heap {w : World} {g : Nat} {o : Obj} (h : w.heap[g]? = some o) : g < w.heap.size := by
  by_cases hh : g < w.heap.size
  · exact hh
  · rw [Array.getElem?_eq_none (by omega)] at h; cases h
theorem OwnV.of_owns {e : TypeId} {base : Nat} {w : World} {v : Value} {n : Nat} {xs : List Value} (h : w.ownsRow base e 1 v n xs) : OwnV e base w.heap.size w v xs := by
  obtain ⟨hl, h⟩ := h
  rw [Nat.mul_one] at hl
  subst hl
  rcases h with ⟨rfl, h0⟩ | ⟨g, cap, cur, rfl, hg, hb, hn, hm, hs, ht⟩
  · exact .inl ⟨by simpa using h0, rfl⟩
  · exact .inr ⟨g, cap, cur, rfl, hg, lt_of_heap hb, hb, hn, hm, by simpa using hs, by simpa using ht⟩
theorem OwnV.owns {e : TypeId} {lo hi : Nat} {w : World} {v : Value} {xs : List Value} (h : OwnV e lo hi w v xs) : w.ownsRow lo e 1 v xs.length xs := by
  rcases h with ⟨rfl, rfl⟩ | ⟨g, cap, cur, rfl, h1, h2, hb, hn, hm, hs, ht⟩
  · exact ⟨rfl, .inl ⟨rfl, rfl⟩⟩
  · exact ⟨by simp, .inr ⟨g, cap, cur, rfl, h1, hb, hn, hm, by simpa using hs, by simpa using ht⟩⟩
theorem OwnV.sl {e : TypeId} {lo hi : Nat} {w : World} {v : Value} {xs : List Value} (h : OwnV e lo hi w v xs) : Sl w v xs := Sl.of_owns h.owns
theorem OwnV.kept {e : TypeId} {lo hi a b : Nat} {w w' : World} {v : Value} {xs : List Value} (h : OwnV e lo hi w v xs) (hk : Kept a b w w') (hd : hi ≤ a ∨ b ≤ lo) : OwnV e lo hi w' v xs := by
  rcases h with h | ⟨g, cap, cur, rfl, h1, h2, hb, hr⟩
  · exact .inl h
  · exact .inr ⟨g, cap, cur, rfl, h1, h2, by rw [hk.block g (lt_of_heap hb) (by omega)]; exact hb, hr⟩
theorem OwnV.below {e : TypeId} {lo hi : Nat} {w w' : World} {v : Value} {xs : List Value} (h : OwnV e lo hi w v xs) (hb : Below w.heap.size w w') : OwnV e lo hi w' v xs :=
  h.kept (Kept.of_below (lo := hi) (hi := hi) hb) (.inl (Nat.le_refl _))
theorem OwnV.mono {e : TypeId} {lo hi lo' hi' : Nat} {w : World} {v : Value} {xs : List Value} (h : OwnV e lo hi w v xs) (h1 : lo' ≤ lo) (h2 : hi ≤ hi') : OwnV e lo' hi' w v xs := by
  rcases h with h | ⟨g, cap, cur, rfl, h3, h4, hb, hr⟩
  · exact .inl h
  · exact .inr ⟨g, cap, cur, rfl, by omega, by omega, hb, hr⟩
theorem OwnV.form {e : TypeId} {lo hi : Nat} {w : World} {v : Value} {xs : List Value} (h : OwnV e lo hi w v xs) (hn : 0 < xs.length) : ∃ g cap : Nat, v = .slice (some ⟨g, 0, none⟩) xs.length cap ∧ lo ≤ g ∧ g < hi := by
  rcases h with ⟨rfl, _⟩ | ⟨g, cap, cur, h1, h2, h3, _⟩
  · simp at hn
  · exact ⟨g, cap, h1, h2, h3⟩
theorem OwnV.nil {e : TypeId} {lo hi : Nat} {w : World} : OwnV e lo hi w (.slice none 0 0) [] := .inl ⟨rfl, rfl⟩
theorem OwnV.len {e : TypeId} {lo hi : Nat} {w : World} {v : Value} {xs : List Value} (h : OwnV e lo hi w v xs) : xs.length ≤ maxLen := h.sl.len
theorem Sl.nil {w : World} : Sl w (.slice none 0 0) [] := .inl ⟨rfl, none, 0, rfl⟩
/-- What was there when the call began still reads so behind a step that changes newer blocks alone. -/
theorem Sl.since {W W' : World} {v : Value} {xs : List Value} {B : Nat} (h : Sl W v xs) (hb : Below B W W') (hB : W.heap.size ≤ B) : Sl W' v xs := h.below (hb.mono hB)
/-- The blocks from lo to hi (hi not among them) are as they were. -/
def Mid (lo hi : Nat) (w w' : World) : Prop := ∀ j, lo ≤ j → j < hi → w'.heap[j]? = w.heap[j]?
theorem Mid.refl (lo hi : Nat) (w : World) : Mid lo hi w w := fun _ _ _ => rfl
theorem Mid.trans {lo hi : Nat} {a b c : World} (h : Mid lo hi a b) (k : Mid lo hi b c) : Mid lo hi a c := fun j h1 h2 => (k j h1 h2).trans (h j h1 h2)
theorem Mid.of_below {lo hi B : Nat} {a b : World} (h : Below B a b) (hB : hi ≤ B) : Mid lo hi a b := fun j _ h2 => h.block j (by omega)
theorem Mid.grown {lo hi : Nat} {a b : World} {r : Option Nat} (h : a.grownBy b r) (hs : hi ≤ a.heap.size) (hr : ∀ g, r = some g → g < lo ∨ hi ≤ g) : Mid lo hi a b := fun j h1 h2 => h.block j (by omega) (fun e => by have := hr j e.symm; omega)
theorem OwnV.mid {e : TypeId} {lo hi : Nat} {w w' : World} {v : Value} {xs : List Value} (h : OwnV e lo hi w v xs) (hm : Mid lo hi w w') : OwnV e lo hi w' v xs := by
  rcases h with h | ⟨g, cap, cur, rfl, h1, h2, hb, hr⟩
  · exact .inl h
  · exact .inr ⟨g, cap, cur, rfl, h1, h2, by rw [hm g h1 h2]; exact hb, hr⟩
end Go.Proofs.Ytoekgcafhcamjaa
