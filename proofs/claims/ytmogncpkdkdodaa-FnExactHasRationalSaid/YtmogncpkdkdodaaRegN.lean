/- Plain facts: halves that are moved one by one; what moving and meeting answer. -/
import Derived.Test.YtmogncpkdkdodaaRegS2
namespace Go.Proofs.Ytmogncpkdkdodaa

/-- The first k are moved. -/
def movedH (hs : List Hf) (v : List Int) (k : Nat) : List Hf := moveL (hs.take k) v ++ hs.drop k
theorem movedH_len (hs : List Hf) (v : List Int) (k : Nat) : (movedH hs v k).length = hs.length := by
  unfold movedH
  rw [List.length_append, move_len, List.length_take, List.length_drop]; omega
theorem movedH_zero (hs : List Hf) (v : List Int) : movedH hs v 0 = hs := by simp [movedH, moveL]
theorem movedH_all (hs : List Hf) (v : List Int) : movedH hs v hs.length = moveL hs v := by simp [movedH]
theorem movedH_get {hs : List Hf} {v : List Int} {k : Nat} (h : k < hs.length) : (movedH hs v k)[k]? = some hs[k] := by
  unfold movedH
  rw [List.getElem?_append_right (by rw [move_len, List.length_take]; omega), move_len, List.length_take, Nat.min_eq_left (by omega), Nat.sub_self, List.getElem?_drop]
  simp [h]
theorem movedH_at {hs : List Hf} {v : List Int} {k : Nat} (h : k < hs.length) : (movedH hs v k)[k]'(by rw [movedH_len]; exact h) = hs[k] := by
  have h1 := movedH_get (v := v) h
  rw [List.getElem?_eq_getElem (by rw [movedH_len]; exact h)] at h1
  exact Option.some.inj h1
theorem movedH_step {hs : List Hf} {v : List Int} {k : Nat} (h : k < hs.length) : (movedH hs v k).set k (moveH v hs[k]) = movedH hs v (k + 1) := by
  unfold movedH
  rw [move_take h, List.set_append_right _ _ (by rw [move_len, List.length_take]; omega), move_len, List.length_take, Nat.min_eq_left (by omega), Nat.sub_self, List.drop_eq_getElem_cons h, List.set_cons_zero, List.append_assoc]
  rfl
/-- How great the product of a half's numbers with a vector is. -/
theorem half_dot_bd {r : Rgn} {x : List Int} (h : ptR r x = true) (k : Nat) (hk : k < r.2.length) : -60000 ≤ dotL r.2[k].1 x ∧ dotL r.2[k].1 x ≤ 60000 := by
  obtain ⟨h1, h2, h3, h4⟩ := half_dot h k hk
  have hb := dot_bd (by omega) h3 h4 r.2[k].1.length (Nat.le_refl _) (by omega)
  rw [List.take_length, h1, List.take_length] at hb
  have : (x.length : Int) ≤ 3 := by omega
  omega
theorem half_bound {r : Rgn} (h : regOk r.1 r.2 = true) (k : Nat) (hk : k < r.2.length) : -200 ≤ r.2[k].2 ∧ r.2[k].2 ≤ 200 := by
  have := halfOk_t ((regOk_t h).2.2.2 k hk)
  exact this.2.2.2.2.2
theorem half_lens {r : Rgn} (h : regOk r.1 r.2 = true) (k : Nat) (hk : k < r.2.length) : 0 < r.2[k].1.length ∧ r.2[k].1.length ≤ 1048576 := by
  have := halfOk_t ((regOk_t h).2.2.2 k hk)
  omega
theorem moveR_f {r : Rgn} {x : List Int} (h : ptR r x = false) : moveR r.1 r.2 x = ((0, []), false) := by
  unfold moveR
  refine if_neg fun k => ?_
  rw [ptR_mk k.1 k.2.1 k.2.2.1] at h
  cases h
theorem moveR_e {r : Rgn} {x : List Int} (h : ptR r x = true) : moveR r.1 r.2 x = if regOk r.1 (moveL r.2 x) = true then ((r.1, moveL r.2 x), true) else ((0, []), false) := by
  obtain ⟨h1, h2, h3⟩ := ptR_t h
  unfold moveR
  by_cases c : regOk r.1 (moveL r.2 x) = true
  · rw [if_pos ⟨h1, h2, h3, c⟩, if_pos c]
  · rw [if_neg (fun k => c k.2.2.2), if_neg c]
theorem meetR_f1 {n m : Int} {hs ks : List Hf} (h : regOk n hs = false) : meetR n hs m ks = ((0, []), false) := if_neg fun k => by rw [h] at k; cases k.1
theorem meetR_f2 {n m : Int} {hs ks : List Hf} (h : regOk m ks = false) : meetR n hs m ks = ((0, []), false) := if_neg fun k => by rw [h] at k; cases k.2.1
theorem meetR_f3 {n m : Int} {hs ks : List Hf} (h : ¬ n = m) : meetR n hs m ks = ((0, []), false) := if_neg fun k => h k.2.2.1
theorem meetR_e {n m : Int} {hs ks : List Hf} (h1 : regOk n hs = true) (h2 : regOk m ks = true) (h3 : n = m) : meetR n hs m ks = if regOk n (meetL hs ks) = true then ((n, meetL hs ks), true) else ((0, []), false) := by
  unfold meetR
  by_cases c : regOk n (meetL hs ks) = true
  · rw [if_pos ⟨h1, h2, h3, c⟩, if_pos c]
  · rw [if_neg (fun k => c k.2.2.2), if_neg c]
theorem new_same {hs ks : List Hf} {k : Nat} (h : k < ks.length) (hm : seenL hs ks[k] = true) : newL hs (ks.take (k + 1)) = newL hs (ks.take k) := by
  rw [new_take h, if_pos (of_decide_eq_true hm), List.append_nil]
theorem new_more {hs ks : List Hf} {k : Nat} (h : k < ks.length) (hm : seenL hs ks[k] = false) : newL hs (ks.take (k + 1)) = newL hs (ks.take k) ++ [ks[k]] := by
  rw [new_take h, if_neg (of_decide_eq_false hm)]
theorem seen_skip {hs : List Hf} {h : Hf} {k : Nat} (hk : k < hs.length) (hs1 : seenL (hs.take k) h = true) : seenL (hs.take (k + 1)) h = true := by rw [seen_take hk, hs1]; rfl
theorem seen_ask {hs : List Hf} {h : Hf} {k : Nat} (hk : k < hs.length) (hs1 : seenL (hs.take k) h = false) : seenL (hs.take (k + 1)) h = decide (hs[k] = h) := by rw [seen_take hk, hs1]; rfl
theorem new_len8 {hs ks : List Hf} {k : Nat} (h1 : hs.length ≤ 8) (h2 : ks.length ≤ 8) : (hs ++ newL hs (ks.take k)).length ≤ 16 := by
  have := new_len_le hs (ks.take k)
  rw [List.length_take] at this
  rw [List.length_append]; omega
theorem tot_four : ∀ hs : List Hf, (∀ h ∈ hs, h.1.length ≤ 3) → totH hs ≤ 4 * hs.length
  | [], _ => by simp [totH]
  | h :: hs, e => by
    have ih := tot_four hs fun k hk => e k (List.mem_cons_of_mem _ hk)
    have h3 := e h (List.mem_cons_self ..)
    simp only [totH, List.map_cons, List.sum_cons, List.length_cons] at ih ⊢
    omega
theorem regOk_tot {n : Int} {hs : List Hf} (h : regOk n hs = true) : totH hs ≤ 32 := by
  have h1 := regOk_t h
  have h2 := tot_four hs fun k hk => by
    obtain ⟨i, hi, rfl⟩ := List.mem_iff_getElem.1 hk
    have := halfOk_t (h1.2.2.2 i hi)
    omega
  omega
theorem meetR_tot (n : Int) (hs : List Hf) (m : Int) (ks : List Hf) : totH (meetR n hs m ks).1.2 ≤ 32 := by
  unfold meetR
  split
  · rename_i h; exact regOk_tot h.2.2.2
  · simp [totH]
theorem moveR_tot (n : Int) (hs : List Hf) (v : List Int) : totH (moveR n hs v).1.2 ≤ 32 := by
  unfold moveR
  split
  · rename_i h; exact regOk_tot h.2.2.2
  · simp [totH]
theorem move_tot (hs : List Hf) (v : List Int) : totN (moveL hs v) = totN hs := by
  unfold totN moveL
  rw [List.map_map]; rfl
end Go.Proofs.Ytmogncpkdkdodaa
