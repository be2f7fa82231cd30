/- What the library's sorting leaves, in the words of rows that the call made. -/
import Derived.Test.YtjijgagdaolkcaaGreatMav
import Derived.Shelf.SlSortCmp.WholeK
namespace Go.Proofs.YtjijgagdaolkcaaGreat
open Go.RowKit Go.Lib Go.Sort

section
variable {α : Type} [Inhabited α] {enc : α → List Value} {k : Nat}
theorem flatK_eq (hk : ∀ x, (enc x).length = k) (d : Array α) : flatK enc k d = (d.toList.flatMap enc).toArray := by
  have hl := flatE_len enc k hk d.toList
  rw [show d.toList.length = d.size from Array.length_toList] at hl
  refine Array.ext_getElem? fun t => ?_
  by_cases ht : t < d.size * k
  · have k0 : 0 < k := by
      by_cases h : 0 < k
      · exact h
      · rw [show k = 0 by omega, Nat.mul_zero] at ht; omega
    have hj : t / k < d.size := Nat.div_lt_of_lt_mul (by rwa [Nat.mul_comm])
    have hc : t % k < k := Nat.mod_lt _ k0
    have e := flatE_get enc k hk d.toList (t / k) (t % k) (by simpa using hj) hc
    rw [show t / k * k + t % k = t from Nat.div_add_mod' t k] at e
    rw [show (List.flatMap enc d.toList).toArray[t]? = (List.flatMap enc d.toList)[t]? from by simp, e]
    have h1 := get_flatK enc k d t ht
    have hs : t < (flatK enc k d).size := by rw [size_flatK]; exact ht
    rw [getElem!_pos _ t hs] at h1
    rw [Array.getElem?_eq_getElem hs, h1, getElem!_pos d (t / k) hj, getElem!_pos _ (t % k) (by rw [hk]; exact hc), List.getElem?_eq_getElem (by rw [hk]; exact hc)]
    rfl
  · rw [Array.getElem?_eq_none (by rw [size_flatK]; omega), show (List.flatMap enc d.toList).toArray[t]? = (List.flatMap enc d.toList)[t]? from by simp, List.getElem?_eq_none (by omega)]
theorem holds_owns {T : TypeId} {lo g n cap : Nat} {w : World} {d : Array α} (hk : ∀ x, (enc x).length = k) (h : w.ownsRow lo T k (.slice (some ⟨g, 0, none⟩) n cap) n (d.toList.flatMap enc)) (hn : d.size = n) : HoldsK enc k w g 0 d := by
  subst hn
  have hl := flatE_len enc k hk d.toList
  rw [show d.toList.length = d.size from Array.length_toList] at hl
  unfold HoldsK
  rw [flatK_eq hk]
  intro j hj
  rw [List.size_toArray, hl] at hj
  have hc := h.cellAt j (by omega)
  rw [Nat.zero_add]
  refine ⟨?_, h.frozenAt j⟩
  rw [hc, getElem!_pos _ j (by rw [List.size_toArray]; omega), List.getElem_toArray, List.getElem?_eq_getElem (by omega)]
  rfl
/-- A row that was put over again. -/
theorem owns_put {T : TypeId} {lo g n cap : Nat} {w : World} {d d' : Array α} (hk : ∀ x, (enc x).length = k) (h : w.ownsRow lo T k (.slice (some ⟨g, 0, none⟩) n cap) n (d.toList.flatMap enc)) (hn : d'.size = n) :
    (putRowK enc k w g 0 d').ownsRow lo T k (.slice (some ⟨g, 0, none⟩) n cap) n (d'.toList.flatMap enc) ∧ w.grownBy (putRowK enc k w g 0 d') (some g) := by
  have hl := flatE_len enc k hk d'.toList
  rw [show d'.toList.length = d'.size from Array.length_toList, hn] at hl
  obtain ⟨_, h2⟩ := h
  rcases h2 with ⟨h2, _⟩ | ⟨g', cap', cur, e, hg, hh, hnc, hm, hs, ht⟩
  · cases h2
  · simp only [Value.slice.injEq, Option.some.injEq, Addr.mk.injEq, true_and] at e
    obtain ⟨⟨rfl, _⟩, rfl⟩ := e
    have hput : (putRowK enc k w g 0 d').heap[g]? = some (.cells (putCells id 0 (flatK enc k d') cur) T (0, 0)) := by
      show (w.heap.modify g _)[g]? = _
      rw [Array.getElem?_modify, if_pos rfl, hh]; rfl
    have hsz : (putCells id 0 (flatK enc k d') cur).size = cur.size := by simp [putCells]
    refine ⟨⟨hl, .inr ⟨g, cap, _, rfl, hg, hput, hnc, hm, by rw [hsz]; exact hs, ?_⟩⟩, rfl, rfl, rfl, by show w.heap.size ≤ (w.heap.modify g _).size; simp, fun q hq hne => ?_⟩
    · refine List.ext_getElem? fun j => ?_
      have hck : n * k ≤ cap * k := Nat.mul_le_mul_right k hnc
      by_cases hj : j < n * k
      · rw [List.getElem?_take, if_pos hj, Array.getElem?_toList]
        unfold putCells
        rw [Array.getElem?_mapIdx, Array.getElem?_eq_getElem (by rw [hs]; omega), Option.map_some, if_pos ⟨Nat.zero_le _, by rw [size_flatK, hn]; omega⟩, flatK_eq hk, Nat.sub_zero, getElem!_pos _ j (by rw [List.size_toArray]; omega), List.getElem_toArray, List.getElem?_eq_getElem (by omega)]
        rfl
      · rw [List.getElem?_eq_none (by rw [List.length_take]; omega), List.getElem?_eq_none (by omega)]
    · show (w.heap.modify g _)[q]? = _
      rw [Array.getElem?_modify, if_neg (fun e => hne (by rw [e]))]
theorem owns_grow {T : TypeId} {lo g n cap : Nat} {w : World} {xs : List Value} (os : Array Obj) (h : w.ownsRow lo T k (.slice (some ⟨g, 0, none⟩) n cap) n xs) : (grow w os).ownsRow lo T k (.slice (some ⟨g, 0, none⟩) n cap) n xs := by
  obtain ⟨h1, h2⟩ := h
  refine ⟨h1, ?_⟩
  rcases h2 with h2 | ⟨g', cap', cur, e, hg, hh, hr⟩
  · exact .inl h2
  · exact .inr ⟨g', cap', cur, e, hg, by rw [heap_grow_old w os (lt_of_heap hh)]; exact hh, hr⟩
/-- What the sorting leaves of a row of the call's own. -/
theorem owns_sorted {T : TypeId} {lo g n cap m : Nat} {w : World} {d d' : Array α} (os : Array Obj) (hk : ∀ x, (enc x).length = k) (h : w.ownsRow lo T k (.slice (some ⟨g, 0, none⟩) n cap) n (d.toList.flatMap enc)) (hn : d'.size = n) :
    (sortWorldK enc k w g 0 m d' os).ownsRow lo T k (.slice (some ⟨g, 0, none⟩) n cap) n (d'.toList.flatMap enc) ∧ w.grownBy (sortWorldK enc k w g 0 m d' os) (some g) := by
  obtain ⟨h1, h2⟩ := owns_put (w := Sort.ahead w m) (d' := d') hk (show (Sort.ahead w m).ownsRow lo T k _ n _ from h) hn
  refine ⟨owns_grow os h1, h2.os, h2.tape, h2.output, Nat.le_trans h2.size (by unfold sortWorldK; rw [size_grow]; omega), fun q hq hne => ?_⟩
  unfold sortWorldK
  rw [heap_grow_old _ os (Nat.lt_of_lt_of_le hq h2.size)]
  exact h2.block q hq hne
theorem perm_mem {d d' : Array α} (h : PermIn 0 d.size d d') : d'.size = d.size ∧ ∀ x, x ∈ d'.toList ↔ x ∈ d.toList := by
  obtain ⟨h1, _, h3⟩ := h
  have e1 : d'.extract 0 d.size = d' := by rw [← h1]; exact Array.extract_size
  have e2 : d.extract 0 d.size = d := Array.extract_size
  rw [e1, e2] at h3
  exact ⟨h1, fun x => h3.mem_iff⟩
theorem sorted_pair {lt : α → α → Bool} {d : Array α} {n : Nat} (h : SortedIn lt 0 n d) (hn : d.size = n) : d.toList.Pairwise fun a b => lt b a = false := by
  rw [List.pairwise_iff_getElem]
  intro i j hi hj hij
  have := h i j (Nat.zero_le _) hij (by rw [← hn]; simpa using hj)
  rw [getElem!_pos d i (by simpa using hi), getElem!_pos d j (by simpa using hj)] at this
  simpa using this
end

/-! Worlds that drew and grew. -/
def Gr (w w' : World) : Prop := ∃ q os, w' = grow (w.drewN q) os
theorem drewN_grow (w : World) (os : Array Obj) (q : Nat) : (grow w os).drewN q = grow (w.drewN q) os := rfl
theorem Gr.refl (w : World) : Gr w w := ⟨0, #[], by rw [grow_empty]; rfl⟩
theorem Gr.trans {a b c : World} (h : Gr a b) (k : Gr b c) : Gr a c := by
  obtain ⟨q, os, rfl⟩ := h
  obtain ⟨r, ot, rfl⟩ := k
  exact ⟨q + r, os ++ ot, by rw [drewN_grow, grow_grow]; simp [World.drewN, Nat.add_assoc]⟩
theorem Gr.alloc (w : World) (o : Obj) : Gr w (w.alloc o) := ⟨0, #[o], by rw [alloc_eq_grow]; rfl⟩
theorem Gr.drew (w : World) : Gr w w.drew := ⟨1, #[], by rw [grow_empty]; rfl⟩
theorem Gr.drewN (w : World) (n : Nat) : Gr w (w.drewN n) := ⟨n, #[], by rw [grow_empty]⟩
theorem Gr.below {w w' : World} (h : Gr w w') : Below w.heap.size w w' := by
  obtain ⟨q, os, rfl⟩ := h
  exact ⟨rfl, rfl, rfl, by rw [size_grow]; exact Nat.le_add_right _ _, fun j hj => heap_grow_old _ os hj⟩
end Go.Proofs.YtjijgagdaolkcaaGreat
