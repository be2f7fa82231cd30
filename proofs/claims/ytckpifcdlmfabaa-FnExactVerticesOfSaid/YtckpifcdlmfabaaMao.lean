/- append at an operation of a region: a half behind halves, numbers behind numbers. -/
import Derived.Test.YtckpifcdlmfabaaMal
import Derived.Test.YtckpifcdlmfabaaMai
import Derived.Test.YtckpifcdlmfabaaOrd
import Derived.Deep.RegionHeld3
import Derived.Test.YtckpifcdlmfabaaMac
namespace Go.Proofs.Ytckpifcdlmfabaa
open Go.RowKit Go.Lib

theorem Kept.cellAt {lo hi : Nat} {w w' : World} (h : Kept lo hi w w') {p : Addr} (hp : p.block < w.heap.size) (ho : p.block < lo ∨ hi ≤ p.block) : w'.cell? p = w.cell? p := World.cell?_of_block (h.block p.block hp ho)
theorem Bk.grown {w w' : World} {b : Nat} {cs : Array Value} {T : TypeId} {r : Option Nat} (h : Bk w b cs T) (hg : w.grownBy w' r) (hne : some b ≠ r) : Bk w' b cs T := (hg.block b h.lt hne).trans h
/-- A block of another type is none of the halves' own. -/
theorem OwH.ne {T e R : TypeId} {lo hi B : Nat} {w : World} {v : Value} {hs : List Hf} {cs : Array Value} (h : OwH T e lo hi w v hs) (hB : Bk w B cs R) (h1 : R ≠ T) : some B ≠ v.ownBlock := by
  obtain ⟨us, k1, k2, _⟩ := h
  intro e1
  rcases k2.2 with ⟨rfl, _⟩ | ⟨g, cap, cur, rfl, hg, hh, _⟩
  · cases e1
  · obtain rfl : B = g := by simpa [Value.ownBlock] using e1
    rw [hB] at hh
    simp only [Option.some.injEq, Obj.cells.injEq] at hh
    exact h1 hh.2.1
theorem OwnV.other {e R : TypeId} {lo hi : Nat} {w : World} {v : Value} {xs : List Value} {cs : Array Value} (h : OwnV e lo hi w v xs) {p : Addr} (hB : Bk w p.block cs R) (h1 : R ≠ e) (u : Value) : OwnV e lo hi (w.setCell p u) v xs := by
  rcases h with h | ⟨g, cap, cur, rfl, h2, h3, hb, hr⟩
  · exact .inl h
  · refine .inr ⟨g, cap, cur, rfl, h2, h3, ?_, hr⟩
    rw [Below.heap_setCell _ _ _ _ (fun e1 => by
      subst e1
      rw [hB] at hb
      simp only [Option.some.injEq, Obj.cells.injEq] at hb
      exact h1 hb.2.1)]
    exact hb
/-- A store into a block of another type. -/
theorem OwH.other {T e R : TypeId} {lo hi : Nat} {w : World} {v : Value} {hs : List Hf} {cs : Array Value} (h : OwH T e lo hi w v hs) {p : Addr} (hB : Bk w p.block cs R) (h1 : R ≠ T) (h2 : R ≠ e) (u : Value) : OwH T e lo hi (w.setCell p u) v hs := by
  have hne := h.ne hB h1
  obtain ⟨us, k1, k2, k3, k4, k5, k6⟩ := h
  refine ⟨us, k1, ⟨k2.1, ?_⟩, k3, fun i x y hx hy => (k4 i x y hx hy).other hB h2 u, k5, k6⟩
  rcases k2.2 with h0 | ⟨g, cap, cur, rfl, hg, hh, hr⟩
  · exact .inl h0
  · exact .inr ⟨g, cap, cur, rfl, hg, by rw [Below.heap_setCell _ _ _ _ (fun e1 => hne (by rw [← e1]; rfl))]; exact hh, hr⟩
/-- append(halves, half) at an operation. -/
theorem wp_app_half2 {o : Oper} {a : Act} {w : World} {K : Act → World → Prop} {Q : Exit → Act → World → Prop} (s x : Operand)
    (ho : o.op = .call { callee := .builtin .append, args := #[s, x], argTypes := #[28, 28] })
    (base m : Nat) (v u : Value) (hs : List Hf) (h : Hf) (hv : a.eval s = v) (hown : OwH 99 3 base m w v hs) (hu : OwnV 3 m w.heap.size w u (intVals h.1))
    (H : Nat) (hx : a.eval x = .slice (some ⟨H, 0, none⟩) 1 1) (hnew : w.heap[H]? = some (.cells #[u, .int .i64 h.2] 99 (0, 0)))
    (hn : hs.length ≤ 1099511627776) (hbm : base ≤ m) (hm : m ≤ w.heap.size)
    (k : ∀ g cap w', OwH 99 3 base w'.heap.size w' (.slice (some ⟨g, 0, none⟩) (hs.length + 1) cap) (hs ++ [h]) → Kept base m w w' → w.grownBy w' v.ownBlock → K (a.put o.dst (.slice (some ⟨g, 0, none⟩) (hs.length + 1) cap)) w') :
    o.wp Try.prog a w K Q := by
  obtain ⟨i0, hi, hz0, hz1, hz2⟩ := info_parts info_half
  have hown' := hown
  obtain ⟨us, h1, h2, h3, h4, h5, h6⟩ := hown
  refine wp_append_lies w s x 28 ho base 99 i0 _ 2 32 Try.underlying28 hi hz0 hz1 hz2 rfl (by omega) v hs.length (flat us hs) hv h2 ⟨H, 0, none⟩ 1 1 [u, .int .i64 h.2] hx rfl (World.news_of_block (cs := #[u, .int .i64 h.2]) hnew) (fun q hq => by
      simp only [List.mem_cons, List.not_mem_nil, or_false] at hq
      rcases hq with rfl | rfl
      · exact own_one hu
      · rfl) (by omega) (by unfold maxLen; omega) (by omega) (by omega) w.heap.size rfl ?_
  intro g cap w' k1 k2 k3 k4
  refine k g cap w' ?_ ⟨k2.os, k2.tape, k2.output, k2.size, fun j hj ho => k2.block j hj fun e => ?_⟩ k2
  · refine hown'.snoc hu hbm hm ⟨h1, h2, h4, h5, h6⟩ h3 k1 k2 ?_
    intro b hb
    have hgb : g = b := by simpa [Value.ownBlock] using hb
    subst hgb
    rcases k3 with h | h
    · exact .inl h
    · exact .inr (by omega)
  · have := (h2.lt j e.symm).1
    have := h3 j e.symm
    omega

theorem wp_app_half {o : Oper} {a : Act} {w : World} {K : Act → World → Prop} {Q : Exit → Act → World → Prop} (s x : Operand)
    (ho : o.op = .call { callee := .builtin .append, args := #[s, x], argTypes := #[28, 28] })
    (base m : Nat) (v u : Value) (hs : List Hf) (h : Hf) (hv : a.eval s = v) (hown : OwH 99 3 base m w v hs) (hu : OwnV 3 m w.heap.size w u (intVals h.1))
    (H : Nat) (hx : a.eval x = .slice (some ⟨H, 0, none⟩) 1 1) (hnew : w.heap[H]? = some (.cells #[u, .int .i64 h.2] 99 (0, 0)))
    (hn : hs.length ≤ 1099511627776) (hbm : base ≤ m) (hm : m ≤ w.heap.size)
    (k : ∀ g cap w', OwH 99 3 base w'.heap.size w' (.slice (some ⟨g, 0, none⟩) (hs.length + 1) cap) (hs ++ [h]) → Kept base m w w' → K (a.put o.dst (.slice (some ⟨g, 0, none⟩) (hs.length + 1) cap)) w') :
    o.wp Try.prog a w K Q := wp_app_half2 s x ho base m v u hs h hv hown hu H hx hnew hn hbm hm fun g cap w' h1 h2 _ => k g cap w' h1 h2

/-- append(out, ys...) at an operation: the source any slice that reads as a list with a number at least. -/
theorem wp_app_ints {o : Oper} {a : Act} {w : World} {K : Act → World → Prop} {Q : Exit → Act → World → Prop} (s x : Operand)
    (ho : o.op = .call { callee := .builtin .append, args := #[s, x], argTypes := #[46, 46] })
    (base : Nat) (v : Value) (xs ys : List Int) (u : Value) (hs : a.eval s = v) (hown : w.ownsRow base 3 1 v xs.length (intVals xs))
    (hx : a.eval x = u) (hu : Sl w u (intVals ys)) (h0 : 0 < ys.length)
    (hn : xs.length + ys.length ≤ 1099511627776) (hbase : base ≤ w.heap.size)
    (h : ∀ v' w', w'.ownsRow base 3 1 v' (xs ++ ys).length (intVals (xs ++ ys)) → Below base w w' → K (a.put o.dst v') w') : o.wp Try.prog a w K Q := by
  obtain ⟨i0, hi, hz0, hz1, hz2⟩ := info_parts info_int'
  have happ : intVals (xs ++ ys) = intVals xs ++ intVals ys := by simp [intVals]
  obtain ⟨ad, c, rfl, _, hopen⟩ := hu.shape
  rw [intVals_len] at hopen hx hu
  obtain ⟨b, off, rfl, hc, hlt, hcell⟩ := hopen h0
  obtain ⟨hl, hc2⟩ := hu.addr
  refine wp_append_own w s x 46 ho base 3 i0 _ 1 8 Try.underlying46 hi hz0 hz1 hz2 rfl (by omega) v xs.length _ hs hown ⟨b, off, none⟩ ys.length c (intVals ys) hx (by rw [hl, Nat.mul_one]) hc2 (by intro q hq; obtain ⟨z, _, rfl⟩ := List.mem_map.1 hq; rfl) (by unfold maxLen; omega) (by omega) hbase ?_
  intro v' w' h1 h2 _
  refine h v' w' (by rw [happ, List.length_append]; exact h1) ((Below.refl base w).grown h2 hbase ?_)
  intro k hk
  exact (hown.lt k hk).1
end Go.Proofs.Ytckpifcdlmfabaa
/- A point is put among the points that the call made: the row's cells, what each point owns. -/
namespace Go.Proofs.Ytckpifcdlmfabaa
open Go.RowKit Go.Lib

theorem owns_cut {w : World} {base g n m cap : Nat} {T : TypeId} {k : Nat} {xs : List Value} (h : w.ownsRow base T k (.slice (some ⟨g, 0, none⟩) n cap) n xs) (hm : m ≤ n) : w.ownsRow base T k (.slice (some ⟨g, 0, none⟩) m cap) m (xs.take (m * k)) := by
  obtain ⟨h1, h2⟩ := h
  have hk : m * k ≤ n * k := Nat.mul_le_mul_right k hm
  refine ⟨by rw [List.length_take, h1]; omega, ?_⟩
  rcases h2 with ⟨h2, _⟩ | ⟨g', cap', cur, e, hg, hh, hn, hc, hs, ht⟩
  · cases h2
  · simp only [Value.slice.injEq, Option.some.injEq, Addr.mk.injEq] at e
    obtain ⟨⟨rfl, _, _⟩, _, rfl⟩ := e
    refine .inr ⟨g, cap, cur, rfl, hg, hh, by omega, hc, hs, ?_⟩
    rw [← ht, List.take_take, Nat.min_eq_left hk]
theorem flat_app : ∀ (us : List Value) (hs : List Hf) (us' : List Value) (hs' : List Hf), us.length = hs.length → flat (us ++ us') (hs ++ hs') = flat us hs ++ flat us' hs'
  | [], [], _, _, _ => rfl
  | x :: us, k :: hs, us', hs', e => by
    simp only [List.cons_append, flat, flat_app us hs us' hs' (by simpa using e)]
theorem flat_take : ∀ (us : List Value) (hs : List Hf) (a : Nat), us.length = hs.length → (flat us hs).take (a * 2) = flat (us.take a) (hs.take a)
  | _, _, 0, _ => by simp [flat]
  | [], [], _ + 1, _ => rfl
  | x :: us, k :: hs, a + 1, e => by
    rw [show (a + 1) * 2 = a * 2 + 1 + 1 by omega]
    simp only [flat, List.take_succ_cons, flat_take us hs a (by simpa using e)]
theorem flat_drop : ∀ (us : List Value) (hs : List Hf) (a : Nat), us.length = hs.length → (flat us hs).drop (a * 2) = flat (us.drop a) (hs.drop a)
  | _, _, 0, _ => by simp
  | [], [], _ + 1, _ => rfl
  | x :: us, k :: hs, a + 1, e => by
    rw [show (a + 1) * 2 = a * 2 + 1 + 1 by omega]
    simp only [flat, List.drop_succ_cons, flat_drop us hs a (by simpa using e)]
theorem get_ins {α : Type} {l : List α} {x : α} {a i : Nat} (ha : a ≤ l.length) : (l.take a ++ x :: l.drop a)[i]? = if i < a then l[i]? else if i = a then some x else l[i - 1]? := by
  have hl : (l.take a).length = a := by rw [List.length_take]; omega
  by_cases h1 : i < a
  · rw [if_pos h1, List.getElem?_append_left (by omega), List.getElem?_take, if_pos h1]
  · rw [if_neg h1, List.getElem?_append_right (by omega), hl]
    by_cases h2 : i = a
    · rw [if_pos h2, h2, Nat.sub_self]; rfl
    · rw [if_neg h2, show i - a = (i - 1 - a) + 1 by omega, List.getElem?_cons_succ, List.getElem?_drop, show a + (i - 1 - a) = i - 1 by omega]
/-- The points again, one put in at place a. -/
theorem OwH.insert {T e : TypeId} {base m : Nat} {w w' : World} {v v' u : Value} {hs : List Hf} {h : Hf} (hu : OwnV e m w.heap.size w u (intVals h.1)) (hbm : base ≤ m) (hm : m ≤ w.heap.size)
    {us : List Value} (hus : us.length = hs.length ∧ w.ownsRow base T 2 v hs.length (flat us hs) ∧ (∀ (i : Nat) u h, us[i]? = some u → hs[i]? = some h → OwnV e base m w u (intVals h.1)) ∧
      (∀ (i j : Nat) u u' b, i ≠ j → us[i]? = some u → us[j]? = some u' → u.ownBlock = some b → u'.ownBlock ≠ some b) ∧ (∀ (i : Nat) u b, us[i]? = some u → u.ownBlock = some b → v.ownBlock ≠ some b))
    (hvm : ∀ b, v.ownBlock = some b → b < m) (a : Nat) (ha : a ≤ hs.length)
    (hr : w'.ownsRow base T 2 v' (hs.length + 1) (flat (us.take a ++ u :: us.drop a) (hs.take a ++ h :: hs.drop a))) (hg : w.grownBy w' v.ownBlock) (hat : ∀ b, v'.ownBlock = some b → v.ownBlock = some b ∨ w.heap.size ≤ b) : OwH T e base w'.heap.size w' v' (hs.take a ++ h :: hs.drop a) := by
  obtain ⟨h1, h2, h3, h4, h5⟩ := hus
  have hau : a ≤ us.length := by omega
  have place : ∀ (i : Nat) x b, us[i]? = some x → x.ownBlock = some b → b < m := fun i x b hx hb => by
    have hi := lt_of_get hx
    exact ((h3 i x _ hx (List.getElem?_eq_getElem (by omega))).place hb).2.1
  have huv : ∀ b, u.ownBlock = some b → some b ≠ v.ownBlock := fun b hb e => by
    have p1 := (hu.place hb).1
    have p2 := hvm b e.symm
    omega
  have get : ∀ (i : Nat) x, (us.take a ++ u :: us.drop a)[i]? = some x → (∃ j, us[j]? = some x ∧ (hs.take a ++ h :: hs.drop a)[i]? = hs[j]? ∧ ((i < a ∧ j = i) ∨ (a < i ∧ i = j + 1))) ∨ (i = a ∧ x = u) := by
    intro i x hx
    rw [get_ins hau] at hx
    by_cases h1 : i < a
    · rw [if_pos h1] at hx
      exact .inl ⟨i, hx, by rw [get_ins ha, if_pos h1], .inl ⟨h1, rfl⟩⟩
    · rw [if_neg h1] at hx
      by_cases h2 : i = a
      · rw [if_pos h2] at hx
        exact .inr ⟨h2, (Option.some.inj hx).symm⟩
      · rw [if_neg h2] at hx
        exact .inl ⟨i - 1, hx, by rw [get_ins ha, if_neg h1, if_neg h2], .inr ⟨by omega, by omega⟩⟩
  have hlen : (hs.take a ++ h :: hs.drop a).length = hs.length + 1 := by simp; omega
  refine ⟨us.take a ++ u :: us.drop a, by rw [hlen]; simp; omega, by rw [hlen]; exact hr, ?_, ?_, ?_, ?_⟩
  · intro b hb; exact (hr.lt b hb).2
  · intro i x z hx hz
    rcases get i x hx with ⟨j, hj, hij, _⟩ | ⟨rfl, rfl⟩
    · rw [hij] at hz
      exact ((h3 j x z hj hz).grown hg (fun b hb e => h5 j x b hj hb e.symm)).mono (Nat.le_refl _) (Nat.le_trans hm hg.size)
    · rw [get_ins ha, if_neg (Nat.lt_irrefl _), if_pos rfl] at hz
      obtain rfl := Option.some.inj hz
      exact (hu.grown hg huv).mono hbm hg.size
  · intro i j x y b hij hx hy hxb
    rcases get i x hx with ⟨i', hx', _, hi'⟩ | ⟨rfl, rfl⟩
    · rcases get j y hy with ⟨j', hy', _, hj'⟩ | ⟨rfl, rfl⟩
      · exact h4 i' j' x y b (by omega) hx' hy' hxb
      · intro hyb
        have p1 := (hu.place hyb).1
        have p2 := place i' x b hx' hxb
        omega
    · rcases get j y hy with ⟨j', hy', _, _⟩ | ⟨rfl, rfl⟩
      · intro hyb
        have p1 := (hu.place hxb).1
        have p2 := place j' y b hy' hyb
        omega
      · exact absurd rfl hij
  · intro i x b hx hxb hvb
    rcases get i x hx with ⟨i', hx', _, _⟩ | ⟨rfl, rfl⟩
    · rcases hat b hvb with h | h
      · exact h5 i' x b hx' hxb h
      · have := place i' x b hx' hxb; omega
    · rcases hat b hvb with h | h
      · exact huv b hxb h.symm
      · have := (hu.place hxb).2.2; omega
theorem info_rat : (Try.prog.info? 63).map (fun i => (i.zero, i.size, i.bytes)) = some (some (.agg #[.slice none 0 0, .int .i64 0]), 2, 32) := by kernel_rfl
/-- append(points, others...) at an operation: the row's cells and where it lies. -/
theorem wp_rats {o : Oper} {a : Act} {w : World} {K : Act → World → Prop} {Q : Exit → Act → World → Prop} (s x : Operand)
    (ho : o.op = .call { callee := .builtin .append, args := #[s, x], argTypes := #[26, 26] })
    (base : Nat) (v : Value) (n : Nat) (xs : List Value) (hv : a.eval s = v) (hown : w.ownsRow base 63 2 v n xs) (ad : Addr) (m c : Nat) (us : List Value) (hs : List Hf) (h1 : us.length = m) (h2 : hs.length = m)
    (hx : a.eval x = .slice (some ad) m c) (hnews : ∀ j u, (flat us hs)[j]? = some u → w.cell? (ad.add j) = some u) (hus : ∀ u ∈ us, u.oneCell' = true) (hm : 0 < m) (hn : n + m ≤ 1099511627776) (hbase : base ≤ w.heap.size)
    (h : ∀ g cap w', w'.ownsRow base 63 2 (.slice (some ⟨g, 0, none⟩) (n + m) cap) (n + m) (xs ++ flat us hs) → w.grownBy w' v.ownBlock → (v.ownBlock = some g ∨ g = w.heap.size) → K (a.put o.dst (.slice (some ⟨g, 0, none⟩) (n + m) cap)) w') : o.wp Try.prog a w K Q := by
  obtain ⟨i0, hi, hz0, hz1, hz2⟩ := info_parts info_rat
  have hone : ∀ (us : List Value) (hs : List Hf), (∀ u ∈ us, u.oneCell' = true) → ∀ q ∈ flat us hs, q.oneCell' = true := by
    intro us
    induction us with
    | nil => intro hs _ q hq; simp [flat] at hq
    | cons y us ih =>
      intro hs hu q hq
      match hs with
      | [] => simp [flat] at hq
      | k :: hs =>
        simp only [flat, List.mem_cons] at hq
        rcases hq with rfl | rfl | hq
        · exact hu _ (List.mem_cons_self ..)
        · rfl
        · exact ih hs (fun z hz => hu z (List.mem_cons_of_mem _ hz)) q hq
  exact wp_append_lies w s x 26 ho base 63 i0 _ 2 32 Try.underlying26 hi hz0 hz1 hz2 rfl (by omega) v n xs hv hown ad m c (flat us hs) hx (by rw [flat_len _ _ (by rw [h1, h2]), h2]) hnews (hone us hs hus) hm (by unfold maxLen; omega) (by omega) hbase w.heap.size rfl fun g cap w' k1 k2 k3 _ => h g cap w' k1 k2 k3
theorem list_rats {ops : Array Oper} {rest : List Oper} {o : Oper} {a : Act} {w : World} {Q : Exit → Act → World → Prop} (hgd : o.guard = none) (s x : Operand)
    (ho : o.op = .call { callee := .builtin .append, args := #[s, x], argTypes := #[26, 26] })
    (base : Nat) (v : Value) (n : Nat) (xs : List Value) (hv : a.eval s = v) (hown : w.ownsRow base 63 2 v n xs) (ad : Addr) (m c : Nat) (us : List Value) (hs : List Hf) (h1 : us.length = m) (h2 : hs.length = m)
    (hx : a.eval x = .slice (some ad) m c) (hnews : ∀ j u, (flat us hs)[j]? = some u → w.cell? (ad.add j) = some u) (hus : ∀ u ∈ us, u.oneCell' = true) (hm : 0 < m) (hn : n + m ≤ 1099511627776) (hbase : base ≤ w.heap.size)
    (h : ∀ g cap w', w'.ownsRow base 63 2 (.slice (some ⟨g, 0, none⟩) (n + m) cap) (n + m) (xs ++ flat us hs) → w.grownBy w' v.ownBlock → (v.ownBlock = some g ∨ g = w.heap.size) → wpList Try.prog ops Q rest (a.put o.dst (.slice (some ⟨g, 0, none⟩) (n + m) cap)) w') : wpList Try.prog ops Q (o :: rest) a w :=
  wpList_plain hgd fun _ hK => wp_rats s x ho base v n xs hv hown ad m c us hs h1 h2 hx hnews hus hm hn hbase fun g cap w' k1 k2 k3 => hK _ _ (h g cap w' k1 k2 k3)
theorem grown_trans {w w1 w2 : World} {r r2 : Option Nat} (h : w.grownBy w1 r) (h2 : w1.grownBy w2 r2) (hr : ∀ b, r2 = some b → r = some b ∨ w.heap.size ≤ b) : w.grownBy w2 r :=
  ⟨h2.os.trans h.os, h2.tape.trans h.tape, h2.output.trans h.output, Nat.le_trans h.size h2.size, fun k hk hne => (h2.block k (Nat.lt_of_lt_of_le hk h.size) (fun e => by
    rcases hr k e.symm with h1 | h1
    · exact hne h1.symm
    · omega)).trans (h.block k hk hne)⟩
theorem row_news {w : World} {base : Nat} {T : TypeId} {g n cap : Nat} {us : List Value} {hs : List Hf} (h : w.ownsRow base T 2 (.slice (some ⟨g, 0, none⟩) n cap) n (flat us hs)) (hl : us.length = hs.length) (hn : hs.length = n) (k : Nat) :
    ∀ j u, (flat (us.drop k) (hs.drop k))[j]? = some u → w.cell? ((⟨g, k * 2, none⟩ : Addr).add j) = some u := by
  intro j u hu
  rw [← flat_drop us hs k hl, List.getElem?_drop] at hu
  have hlt := lt_of_get hu
  rw [flat_len _ _ hl, hn] at hlt
  have hc := h.cellAt (k * 2 + j) (by omega)
  rw [hu] at hc
  have hadd : (⟨g, k * 2, none⟩ : Addr).add j = ⟨g, k * 2 + j, none⟩ := by
    unfold Addr.add
    split
    · simp_all
    · rfl
  rw [hadd]
  exact hc
/-- append(points, none...): the points themselves. -/
theorem run_none {w : World} (base : Nat) (t ty e : TypeId) (i : TypeInfo) (size : Nat) (ht : Try.prog.underlying t = some (.slice e)) (hi : Try.prog.info? e = some i)
    (v : Value) (n : Nat) (xs : List Value) (hown : w.ownsRow base e size v n xs) (ad : Option Addr) (c : Nat) :
    (Builtin.append_ #[t, t] ty #[v, .slice ad 0 c]).run Try.prog w = .ok v w := by
  rcases hown.2 with ⟨rfl, rfl⟩ | ⟨g, cap, cur, rfl, _, _, hnc, _⟩
  · cases ad <;> simp [Builtin.append_, run_underlying ht, sizeOf, typeInfo, hi, Builtin.lenOf, Builtin.firstCells, loadCells, loadCellsFrom]
  · cases ad <;> simp [Builtin.append_, run_underlying ht, sizeOf, typeInfo, hi, Builtin.lenOf, Builtin.firstCells, hnc, storeCells, loadCells, loadCellsFrom]
theorem wp_none {o : Oper} {a : Act} {w : World} {K : Act → World → Prop} {Q : Exit → Act → World → Prop} (s x : Operand)
    (ho : o.op = .call { callee := .builtin .append, args := #[s, x], argTypes := #[26, 26] })
    (base : Nat) (v : Value) (n : Nat) (xs : List Value) (hv : a.eval s = v) (hown : w.ownsRow base 63 2 v n xs) (ad : Option Addr) (c : Nat) (hx : a.eval x = .slice ad 0 c) (h : K (a.put o.dst v) w) : o.wp Try.prog a w K Q := by
  obtain ⟨i0, hi, _⟩ := info_parts info_rat
  have hr := run_none (w := w) base 26 o.type 63 i0 2 Try.underlying26 hi v n xs hown ad c
  unfold Oper.wp execOp
  simp only [ho, resolve, invoke, builtin, Sem.run_bind, Sem.run_pure, Result.andThen_ok, List.map_toArray, List.map_cons, List.map_nil, hv, hx, hr]
  exact h
theorem list_none {ops : Array Oper} {rest : List Oper} {o : Oper} {a : Act} {w : World} {Q : Exit → Act → World → Prop} (hgd : o.guard = none) (s x : Operand)
    (ho : o.op = .call { callee := .builtin .append, args := #[s, x], argTypes := #[26, 26] })
    (base : Nat) (v : Value) (n : Nat) (xs : List Value) (hv : a.eval s = v) (hown : w.ownsRow base 63 2 v n xs) (ad : Option Addr) (c : Nat) (hx : a.eval x = .slice ad 0 c) (h : wpList Try.prog ops Q rest (a.put o.dst v) w) : wpList Try.prog ops Q (o :: rest) a w :=
  wpList_plain hgd fun _ hK => wp_none s x ho base v n xs hv hown ad c hx (hK _ _ h)
end Go.Proofs.Ytckpifcdlmfabaa
