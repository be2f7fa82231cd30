/- Slices of fixed halves (four numbers each) that the call made itself. -/
import Derived.Test.YtckpifcdlmfabaaMao
import Derived.Test.YtckpifcdlmfabaaMax
namespace Go.Proofs.Ytckpifcdlmfabaa
open Go Go.RowKit Go.Lib Go.Deep

/-- The cells of a half of fixed length. -/
def fxC (h : Hf) : List Value := [.int .i64 (h.1.getD 0 0), .int .i64 (h.1.getD 1 0), .int .i64 (h.1.getD 2 0), .int .i64 h.2]
def flatF : List Hf → List Value
  | [] => []
  | h :: hs => .int .i64 (h.1.getD 0 0) :: .int .i64 (h.1.getD 1 0) :: .int .i64 (h.1.getD 2 0) :: .int .i64 h.2 :: flatF hs
theorem flatF_len : ∀ hs : List Hf, (flatF hs).length = hs.length * 4
  | [] => rfl
  | h :: hs => by simp only [flatF, List.length_cons, flatF_len hs]; omega
theorem flatF_get : ∀ (hs : List Hf) (j : Nat) (h : j < hs.length), (flatF hs)[j * 4]? = some (.int .i64 (hs[j].1.getD 0 0)) ∧ (flatF hs)[j * 4 + 1]? = some (.int .i64 (hs[j].1.getD 1 0)) ∧ (flatF hs)[j * 4 + 2]? = some (.int .i64 (hs[j].1.getD 2 0)) ∧ (flatF hs)[j * 4 + 3]? = some (.int .i64 hs[j].2)
  | [], j, h => by simp at h
  | h :: hs, 0, _ => ⟨rfl, rfl, rfl, rfl⟩
  | h :: hs, j + 1, hj => by
    have ih := flatF_get hs j (by simpa using hj)
    rw [show (j + 1) * 4 = j * 4 + 1 + 1 + 1 + 1 from by omega]
    simpa only [flatF, List.getElem?_cons_succ, List.getElem_cons_succ, Nat.add_right_comm] using ih
theorem flatF_put : ∀ (hs : List Hf) (j : Nat) (h : Hf), ((((flatF hs).set (j * 4) (.int .i64 (h.1.getD 0 0))).set (j * 4 + 1) (.int .i64 (h.1.getD 1 0))).set (j * 4 + 2) (.int .i64 (h.1.getD 2 0))).set (j * 4 + 3) (.int .i64 h.2) = flatF (hs.set j h)
  | [], j, h => by simp [flatF]
  | x :: hs, 0, h => by simp [flatF]
  | x :: hs, j + 1, h => by
    have ih := flatF_put hs j h
    rw [show (j + 1) * 4 = j * 4 + 1 + 1 + 1 + 1 from by omega, show j * 4 + 1 + 1 + 1 + 1 + 1 = j * 4 + 1 + 1 + 1 + 1 + 1 from rfl]
    simp only [flatF, List.set_cons_succ, show j * 4 + 1 + 1 + 1 + 1 + 1 = j * 4 + 1 + 1 + 1 + 1 + 1 from rfl, show j * 4 + 1 + 1 + 1 + 1 + 2 = j * 4 + 2 + 1 + 1 + 1 + 1 from rfl, show j * 4 + 1 + 1 + 1 + 1 + 3 = j * 4 + 3 + 1 + 1 + 1 + 1 from rfl, ih]
theorem flatF_bound : ∀ (hs : List Hf) (j : Nat) (h' : Hf) (_hj : j < hs.length) (_e : hs[j].1 = h'.1), (flatF hs).set (j * 4 + 3) (.int .i64 h'.2) = flatF (hs.set j h')
  | [], j, h, hj, _ => by simp at hj
  | x :: hs, 0, h, _, e => by simp only [List.getElem_cons_zero] at e; simp [flatF, e]
  | x :: hs, j + 1, h, hj, e => by
    have ih := flatF_bound hs j h (by simpa using hj) (by simpa using e)
    rw [show (j + 1) * 4 + 3 = j * 4 + 3 + 1 + 1 + 1 + 1 from by omega]
    simp only [flatF, List.set_cons_succ, ih]
theorem flatF_append : ∀ (hs ks : List Hf), flatF (hs ++ ks) = flatF hs ++ flatF ks
  | [], _ => rfl
  | h :: hs, ks => by simp only [List.cons_append, flatF, flatF_append hs ks]
theorem flatF_zeros : ∀ n : Nat, flatF (zerosH n) = (List.replicate n [Value.int .i64 0, .int .i64 0, .int .i64 0, .int .i64 0]).flatten
  | 0 => rfl
  | n + 1 => by
    have := flatF_zeros n
    simp only [zerosH, List.replicate_succ, flatF, List.flatten_cons, List.cons_append, List.nil_append] at this ⊢
    rw [this]; rfl
theorem made_zerosF (n : Nat) : (madeCells #[.int .i64 0, .int .i64 0, .int .i64 0, .int .i64 0] (n * 4)).toList = flatF (zerosH n) := by
  refine List.ext_getElem? fun i => ?_
  by_cases hi : i < n * 4
  · have e1 : (madeCells #[.int .i64 0, .int .i64 0, .int .i64 0, .int .i64 0] (n * 4)).toList[i]? = some ((#[Value.int .i64 0, .int .i64 0, .int .i64 0, .int .i64 0] : Array Value)[i % 4]!) := by
      unfold madeCells
      rw [Array.getElem?_toList, Array.getElem?_map]
      simp [hi]
    have hj : i / 4 < (zerosH n).length := by simp [zerosH]; omega
    have hz : (zerosH n)[i / 4] = ([], 0) := by simp [zerosH]
    have g := flatF_get (zerosH n) (i / 4) hj
    rw [hz] at g
    rw [e1]
    have h4 : i % 4 < 4 := Nat.mod_lt _ (by omega)
    rcases (by omega : i % 4 = 0 ∨ i % 4 = 1 ∨ i % 4 = 2 ∨ i % 4 = 3) with h | h | h | h <;> rw [h]
    · rw [show i = i / 4 * 4 by omega, g.1]; rfl
    · rw [show i = i / 4 * 4 + 1 by omega, g.2.1]; rfl
    · rw [show i = i / 4 * 4 + 2 by omega, g.2.2.1]; rfl
    · rw [show i = i / 4 * 4 + 3 by omega, g.2.2.2]; rfl
  · rw [List.getElem?_eq_none (by rw [Array.length_toList, size_madeCells]; omega), List.getElem?_eq_none (by rw [flatF_len]; simp [zerosH]; omega)]

/-- The fixed halves hs lie at v, in a block of the call's own between lo and hi. -/
def OwF (T : TypeId) (lo hi : Nat) (w : World) (v : Value) (hs : List Hf) : Prop := w.ownsRow lo T 4 v hs.length (flatF hs) ∧ ∀ b, v.ownBlock = some b → b < hi
theorem owns4_kept {T : TypeId} {lo hi a b n : Nat} {w w' : World} {v : Value} {xs : List Value} (h : w.ownsRow lo T 4 v n xs) (hv : ∀ b, v.ownBlock = some b → b < hi) (hk : Kept a b w w') (hd : hi ≤ a ∨ b ≤ lo) : w'.ownsRow lo T 4 v n xs := by
  obtain ⟨h1, h2⟩ := h
  refine ⟨h1, ?_⟩
  rcases h2 with h2 | ⟨g, cap, cur, rfl, hg, hh, hr⟩
  · exact .inl h2
  · have := hv g rfl
    exact .inr ⟨g, cap, cur, rfl, hg, by rw [hk.block g (lt_of_heap hh) (by omega)]; exact hh, hr⟩
theorem OwF.kept {T : TypeId} {lo hi a b : Nat} {w w' : World} {v : Value} {hs : List Hf} (h : OwF T lo hi w v hs) (hk : Kept a b w w') (hd : hi ≤ a ∨ b ≤ lo) : OwF T lo hi w' v hs := ⟨owns4_kept h.1 h.2 hk hd, h.2⟩
theorem OwF.below {T : TypeId} {lo hi : Nat} {w w' : World} {v : Value} {hs : List Hf} (h : OwF T lo hi w v hs) (hb : Below w.heap.size w w') : OwF T lo hi w' v hs :=
  h.kept (Kept.of_below (lo := hi) (hi := hi) hb) (.inl (Nat.le_refl _))
theorem OwF.mono {T : TypeId} {lo hi lo' hi' : Nat} {w : World} {v : Value} {hs : List Hf} (h : OwF T lo hi w v hs) (h1 : lo' ≤ lo) (h2 : hi ≤ hi') : OwF T lo' hi' w v hs :=
  ⟨Go.Joins.ownsRow_le h.1 h1, fun b hb => Nat.lt_of_lt_of_le (h.2 b hb) h2⟩
theorem OwF.zeros {T : TypeId} {base lo hi : Nat} {w : World} {b n : Nat} (h : w.ownsRow base T 4 (.slice (some ⟨b, 0, none⟩) n n) n (madeCells #[.int .i64 0, .int .i64 0, .int .i64 0, .int .i64 0] (n * 4)).toList) (hlo : lo ≤ base) (hhi : b < hi) : OwF T lo hi w (.slice (some ⟨b, 0, none⟩) n n) (zerosH n) := by
  rw [made_zerosF] at h
  refine ⟨?_, fun x hx => (show b = x by simpa [Value.ownBlock] using hx) ▸ hhi⟩
  rw [show (zerosH n).length = n by simp [zerosH]]
  exact Go.Joins.ownsRow_le h hlo
theorem OwF.shape {T : TypeId} {lo hi : Nat} {w : World} {v : Value} {hs : List Hf} (h : OwF T lo hi w v hs) : ∃ (a : Option Addr) (c : Nat), v = .slice a hs.length c ∧ hs.length ≤ maxLen := by
  obtain ⟨⟨_, h2⟩, _⟩ := h
  rcases h2 with ⟨rfl, h0⟩ | ⟨g, cap, cur, rfl, hg, hh, hn, hm, _⟩
  · exact ⟨none, 0, by rw [h0], by rw [h0]; exact Nat.zero_le _⟩
  · exact ⟨_, cap, rfl, by omega⟩
/-- Half j: its four cells. -/
theorem OwF.at {T : TypeId} {lo hi : Nat} {w : World} {v : Value} {hs : List Hf} (h : OwF T lo hi w v hs) (j : Nat) (hj : j < hs.length) {a : Option Addr} {n c : Nat} (hv : v = .slice a n c) :
    ∃ b : Nat, a = some ⟨b, 0, none⟩ ∧ lo ≤ b ∧ b < hi ∧ b < w.heap.size ∧ hs.length ≤ c ∧
      (w.cell? ⟨b, j * 4, none⟩ = some (.int .i64 (hs[j].1.getD 0 0)) ∧ w.cell? ⟨b, j * 4 + 1, none⟩ = some (.int .i64 (hs[j].1.getD 1 0)) ∧ w.cell? ⟨b, j * 4 + 2, none⟩ = some (.int .i64 (hs[j].1.getD 2 0)) ∧ w.cell? ⟨b, j * 4 + 3, none⟩ = some (.int .i64 hs[j].2)) ∧
      ∀ i, w.frozen? ⟨b, i, none⟩ = false := by
  obtain ⟨k2, k3⟩ := h
  obtain ⟨g, cap, e1⟩ := Go.Joins.ownsRow_form k2 (by omega)
  subst e1
  simp only [Value.slice.injEq] at hv
  obtain ⟨rfl, rfl, rfl⟩ := hv
  have hlt := k2.lt g rfl
  obtain ⟨g0, g1, g2, g3⟩ := flatF_get hs j hj
  have hc : hs.length ≤ cap := by
    rcases k2.2 with ⟨k7, _⟩ | ⟨g', cap', cur, e2, _, _, k9, _⟩
    · cases k7
    · simp only [Value.slice.injEq] at e2
      rw [e2.2.2]; exact k9
  exact ⟨g, rfl, hlt.1, k3 g rfl, hlt.2, hc, ⟨by rw [k2.cellAt _ (by omega)]; exact g0, by rw [k2.cellAt _ (by omega)]; exact g1, by rw [k2.cellAt _ (by omega)]; exact g2, by rw [k2.cellAt _ (by omega)]; exact g3⟩, fun i => k2.frozenAt i⟩
theorem OwF.bound {T : TypeId} {lo hi : Nat} {w : World} {b n c : Nat} {hs : List Hf} (h : OwF T lo hi w (.slice (some ⟨b, 0, none⟩) n c) hs) (j : Nat) (hj : j < hs.length) (z : Int) :
    OwF T lo hi (w.setCell ⟨b, j * 4 + 3, none⟩ (.int .i64 z)) (.slice (some ⟨b, 0, none⟩) n c) (hs.set j (hs[j].1, z)) := by
  obtain ⟨k2, k3⟩ := h
  obtain ⟨g, cap, e1⟩ := Go.Joins.ownsRow_form k2 (by omega)
  simp only [Value.slice.injEq, Option.some.injEq, Addr.mk.injEq] at e1
  obtain ⟨⟨rfl, _, _⟩, rfl, rfl⟩ := e1
  have hst := (k2.stored (j * 4 + 3) (.int .i64 z)).1
  rw [flatF_bound hs j (hs[j].1, z) hj rfl] at hst
  exact ⟨by rw [List.length_set]; exact hst, k3⟩
/-- A whole fixed half is stored at place j. -/
theorem OwF.put {T : TypeId} {lo hi : Nat} {w : World} {b n c : Nat} {hs : List Hf} (h : OwF T lo hi w (.slice (some ⟨b, 0, none⟩) n c) hs) (j : Nat) (hj : j < hs.length) (x : Hf) :
    OwF T lo hi ((((w.setCell ⟨b, j * 4, none⟩ (.int .i64 (x.1.getD 0 0))).setCell ⟨b, j * 4 + 1, none⟩ (.int .i64 (x.1.getD 1 0))).setCell ⟨b, j * 4 + 2, none⟩ (.int .i64 (x.1.getD 2 0))).setCell ⟨b, j * 4 + 3, none⟩ (.int .i64 x.2)) (.slice (some ⟨b, 0, none⟩) n c) (hs.set j x) := by
  obtain ⟨k2, k3⟩ := h
  obtain ⟨g, cap, e1⟩ := Go.Joins.ownsRow_form k2 (by omega)
  simp only [Value.slice.injEq, Option.some.injEq, Addr.mk.injEq] at e1
  obtain ⟨⟨rfl, _, _⟩, rfl, rfl⟩ := e1
  have hst := ((((((k2.stored (j * 4) (.int .i64 (x.1.getD 0 0))).1).stored (j * 4 + 1) (.int .i64 (x.1.getD 1 0))).1).stored (j * 4 + 2) (.int .i64 (x.1.getD 2 0))).1.stored (j * 4 + 3) (.int .i64 x.2)).1
  rw [flatF_put hs j x] at hst
  exact ⟨by rw [List.length_set]; exact hst, k3⟩
theorem pad_fx (v : List Int) (h1 : 1 ≤ v.length) (h2 : v.length ≤ 3) : splice [Value.int .i64 0, .int .i64 0, .int .i64 0] 0 (intVals v) = [.int .i64 (v.getD 0 0), .int .i64 (v.getD 1 0), .int .i64 (v.getD 2 0)] := by
  match v, h1, h2 with
  | [x], _, _ => rfl
  | [x, y], _, _ => rfl
  | [x, y, z], _, _ => rfl
theorem info_fx : (Try.prog.info? 59).map (fun i => (i.zero, i.size, i.bytes)) = some (some (.agg #[.int .i64 0, .int .i64 0, .int .i64 0, .int .i64 0]), 4, 32) := by kernel_rfl
/-- Halves of one length are told by their four numbers. -/
theorem getD_eq {u v : List Int} (hl : u.length = v.length) (h3 : u.length ≤ 3) (h : u.getD 0 0 = v.getD 0 0 ∧ u.getD 1 0 = v.getD 1 0 ∧ u.getD 2 0 = v.getD 2 0) : u = v := by
  match u, v, hl, h3, h with
  | [], [], _, _, _ => rfl
  | [x], [y], _, _, h => simp at h; rw [h]
  | [x, x'], [y, y'], _, _, h => simp at h; rw [h.1, h.2]
  | [x, x', x''], [y, y', y''], _, _, h => simp at h; rw [h.1, h.2.1, h.2.2]
theorem fx_eq {h k : Hf} (hl : h.1.length = k.1.length) (h3 : h.1.length ≤ 3) : decide (h.1.getD 0 0 = k.1.getD 0 0 ∧ h.1.getD 1 0 = k.1.getD 1 0 ∧ h.1.getD 2 0 = k.1.getD 2 0 ∧ h.2 = k.2) = decide (h = k) := by
  refine decide_eq_decide.2 ⟨fun e => ?_, fun e => by subst e; exact ⟨rfl, rfl, rfl, rfl⟩⟩
  obtain ⟨a, x⟩ := h
  obtain ⟨b, y⟩ := k
  have := getD_eq hl h3 ⟨e.1, e.2.1, e.2.2.1⟩
  simp only at this e
  rw [this, e.2.2.2]
end Go.Proofs.Ytckpifcdlmfabaa
