/- append(out, row) where out is a slice of slices that the call made. -/
import Derived.Test.YtmogncpkdkdodaaRowTo
import Derived.Test.YtmogncpkdkdodaaMah
import Derived.Test.YtmogncpkdkdodaaMab
namespace Go.Proofs.Ytmogncpkdkdodaa
open Go.RowKit Go.Lib

theorem OwnV.grown {e : TypeId} {lo hi : Nat} {w w' : World} {r : Option Nat} {v : Value} {xs : List Value} (h : OwnV e lo hi w v xs) (hg : w.grownBy w' r) (hne : ∀ b, v.ownBlock = some b → some b ≠ r) : OwnV e lo hi w' v xs := by
  rcases h with h | ⟨b, cap, cur, rfl, h1, h2, hb, hr⟩
  · exact .inl h
  · exact .inr ⟨b, cap, cur, rfl, h1, h2, by rw [hg.block b (lt_of_heap hb) (hne b rfl)]; exact hb, hr⟩
theorem owr_empty {T e : TypeId} {w : World} {base : Nat} (hb : base ≤ w.heap.size) : OwR T e base (w.alloc (.cells #[] T)).heap.size (w.alloc (.cells #[] T)) (.slice (some ⟨w.heap.size, 0, none⟩) 0 0) [] :=
  ⟨[], rfl, OwnV.of_owns (owns_none hb), fun i u zs hu => by simp at hu, fun i j u u' b _ hu => by simp at hu, fun i u b hu => by simp at hu⟩
theorem own_one {e : TypeId} {lo hi : Nat} {w : World} {v : Value} {xs : List Value} (h : OwnV e lo hi w v xs) : v.oneCell' = true := by
  rcases h with ⟨_, rfl⟩ | ⟨b, cap, cur, rfl, _⟩ <;> rfl
/-- A row is put behind the others. -/
theorem OwR.snoc {T e : TypeId} {base m : Nat} {w w' : World} {v v' u : Value} {zss : List (List Int)} {ys : List Int} (_hown : OwR T e base m w v zss) (hu : OwnV e m w.heap.size w u (intVals ys)) (hbm : base ≤ m) (hm : m ≤ w.heap.size)
    {vs : List Value} (hvs : vs.length = zss.length ∧ OwnV T base m w v vs ∧ (∀ (i : Nat) u zs, vs[i]? = some u → zss[i]? = some zs → OwnV e base m w u (intVals zs)) ∧
    (∀ (i j : Nat) u u' b, i ≠ j → vs[i]? = some u → vs[j]? = some u' → u.ownBlock = some b → u'.ownBlock ≠ some b) ∧ (∀ (i : Nat) u b, vs[i]? = some u → u.ownBlock = some b → v.ownBlock ≠ some b))
    (hr : w'.ownsRow base T 1 v' (vs.length + 1) (vs ++ [u])) (hg : w.grownBy w' v.ownBlock) (hat : ∀ b, v'.ownBlock = some b → v.ownBlock = some b ∨ w.heap.size ≤ b) : OwR T e base w'.heap.size w' v' (zss ++ [ys]) := by
  obtain ⟨h1, h2, h3, h4, h5⟩ := hvs
  have get : ∀ (i : Nat) x, (vs ++ [u])[i]? = some x → (vs[i]? = some x ∧ i < vs.length) ∨ (i = vs.length ∧ x = u) := by
    intro i x hx
    by_cases hi : i < vs.length
    · rw [List.getElem?_append_left hi] at hx; exact .inl ⟨hx, hi⟩
    · rw [List.getElem?_append_right (by omega)] at hx
      have : i - vs.length < 1 := by have := lt_of_get hx; simpa using this
      have hz : i - vs.length = 0 := by omega
      rw [hz] at hx
      exact .inr ⟨by omega, by simpa using hx.symm⟩
  have place : ∀ (i : Nat) x b, vs[i]? = some x → x.ownBlock = some b → b < m := fun i x b hx hb => by
    have hi := lt_of_get hx
    exact ((h3 i x _ hx (List.getElem?_eq_getElem (by omega))).place hb).2.1
  have huv : ∀ b, u.ownBlock = some b → some b ≠ v.ownBlock := fun b hb e => by
    have p1 := (hu.place hb).1
    have p2 := (h2.place e.symm).2.1
    omega
  refine ⟨vs ++ [u], by rw [List.length_append, List.length_append, h1]; rfl, OwnV.of_owns hr, ?_, ?_, ?_⟩
  · intro i x zs hx hz
    rcases get i x hx with ⟨hx', hi⟩ | ⟨rfl, rfl⟩
    · rw [List.getElem?_append_left (by omega)] at hz
      exact ((h3 i x zs hx' hz).grown hg (fun b hb e => h5 i x b hx' hb e.symm)).mono (Nat.le_refl _) (Nat.le_trans hm hg.size)
    · rw [h1, List.getElem?_append_right (Nat.le_refl _), Nat.sub_self] at hz
      obtain rfl : ys = zs := by simpa using hz
      exact (hu.grown hg huv).mono hbm hg.size
  · intro i j x y b hij hx hy hxb
    rcases get i x hx with ⟨hx', _⟩ | ⟨rfl, rfl⟩
    · rcases get j y hy with ⟨hy', _⟩ | ⟨rfl, rfl⟩
      · exact h4 i j x y b hij hx' hy' hxb
      · intro hyb
        have p1 := (hu.place hyb).1
        have p2 := place i x b hx' hxb
        omega
    · rcases get j y hy with ⟨hy', _⟩ | ⟨rfl, rfl⟩
      · intro hyb
        have p1 := (hu.place hxb).1
        have p2 := place j y b hy' hyb
        omega
      · exact absurd rfl hij
  · intro i x b hx hxb hvb
    rcases get i x hx with ⟨hx', _⟩ | ⟨rfl, rfl⟩
    · rcases hat b hvb with h | h
      · exact h5 i x b hx' hxb h
      · have := place i x b hx' hxb; omega
    · rcases hat b hvb with h | h
      · exact huv b hxb h.symm
      · have := (hu.place hxb).2.2; omega
theorem OwR.mid {T e : TypeId} {lo hi : Nat} {w w' : World} {v : Value} {zss : List (List Int)} (h : OwR T e lo hi w v zss) (hm : Mid lo hi w w') : OwR T e lo hi w' v zss := by
  obtain ⟨vs, h1, h2, h3, h4, h5⟩ := h
  exact ⟨vs, h1, h2.mid hm, fun i u zs hu hz => (h3 i u zs hu hz).mid hm, h4, h5⟩
/-- append(out, row) at a plain list of operations, with the place of the new row. -/
theorem list_app_row2 {ops : Array Oper} {rest : List Oper} {o : Oper} {a : Act} {w : World} {Q : Exit → Act → World → Prop} (hgd : o.guard = none) (s x : Operand)
    (ho : o.op = .call { callee := .builtin .append, args := #[s, x], argTypes := #[28, 28] })
    (base m : Nat) (v u : Value) (zss : List (List Int)) (ys : List Int) (hs : a.eval s = v) (hown : OwR 30 3 base m w v zss) (hu : OwnV 3 m w.heap.size w u (intVals ys))
    (H : Nat) (hx : a.eval x = .slice (some ⟨H, 0, none⟩) 1 1) (hnew : w.heap[H]? = some (.cells #[u] 30 (0, 0)))
    (hn : zss.length ≤ 1099511627776) (hbm : base ≤ m) (hm : m ≤ w.heap.size)
    (h : ∀ g cap w', OwR 30 3 base w'.heap.size w' (.slice (some ⟨g, 0, none⟩) (zss.length + 1) cap) (zss ++ [ys]) → Below base w w' → (v.ownBlock = some g ∨ w.heap.size ≤ g) → w.grownBy w' v.ownBlock → wpList Try.prog ops Q rest (a.put o.dst (.slice (some ⟨g, 0, none⟩) (zss.length + 1) cap)) w') :
    wpList Try.prog ops Q (o :: rest) a w := by
  obtain ⟨i0, hi, hz0, hz1, hz2⟩ := info_parts info_row
  have hown' := hown
  obtain ⟨vs, h1, h2, h3, h4, h5⟩ := hown
  refine wpList_append_lies w hgd s x 28 ho base 30 i0 _ 1 24 Try.underlying28 hi hz0 hz1 hz2 rfl (by omega) v vs.length vs hs h2.owns ⟨H, 0, none⟩ 1 1 [u] hx rfl (World.news_of_block (cs := #[u]) hnew) (fun q hq => by rw [List.mem_singleton.1 hq]; exact own_one hu) (by omega) (by unfold maxLen; omega) (by omega) (by omega) w.heap.size rfl ?_
  intro g cap w' k1 k2 k3 k4
  rw [h1] at k1 ⊢
  refine h g cap w' ?_ ((Below.refl base w).grown k2 (by omega) ?_) (k3.elim (fun h => .inl h) (fun h => .inr (by omega))) k2
  · refine hown'.snoc hu hbm hm ⟨h1, h2, h3, h4, h5⟩ (by rw [h1]; exact k1) k2 ?_
    intro b hb
    have hgb : g = b := by simpa [Value.ownBlock] using hb
    subst hgb
    rcases k3 with h | h
    · exact .inl h
    · exact .inr (by omega)
  · intro k hk
    exact ((h2.place hk).1)

/-- append(out, row) at a plain list of operations. -/
theorem list_app_row {ops : Array Oper} {rest : List Oper} {o : Oper} {a : Act} {w : World} {Q : Exit → Act → World → Prop} (hgd : o.guard = none) (s x : Operand)
    (ho : o.op = .call { callee := .builtin .append, args := #[s, x], argTypes := #[28, 28] })
    (base m : Nat) (v u : Value) (zss : List (List Int)) (ys : List Int) (hs : a.eval s = v) (hown : OwR 30 3 base m w v zss) (hu : OwnV 3 m w.heap.size w u (intVals ys))
    (H : Nat) (hx : a.eval x = .slice (some ⟨H, 0, none⟩) 1 1) (hnew : w.heap[H]? = some (.cells #[u] 30 (0, 0)))
    (hn : zss.length ≤ 1099511627776) (hbm : base ≤ m) (hm : m ≤ w.heap.size)
    (h : ∀ g cap w', OwR 30 3 base w'.heap.size w' (.slice (some ⟨g, 0, none⟩) (zss.length + 1) cap) (zss ++ [ys]) → Below base w w' → wpList Try.prog ops Q rest (a.put o.dst (.slice (some ⟨g, 0, none⟩) (zss.length + 1) cap)) w') :
    wpList Try.prog ops Q (o :: rest) a w :=
  list_app_row2 hgd s x ho base m v u zss ys hs hown hu H hx hnew hn hbm hm fun g cap w' h1 h2 _ _ => h g cap w' h1 h2

/-- What a function that makes a slice of slices of its own leaves. -/
def MadeR (w : World) (zss : List (List Int)) (e : Ending) (w' : World) : Prop := (∃ v, e = .returned v ∧ OwR 30 3 w.heap.size w'.heap.size w' v zss) ∧ Below w.heap.size w w'
/-- What a function that answers a slice of slices and whether it is there leaves. -/
def GotR (w : World) (r : List (List Int) × Bool) (e : Ending) (w' : World) : Prop := (∃ v, e = .returned (.tuple #[v, .bool r.2]) ∧ OwR 30 3 w.heap.size w'.heap.size w' v r.1) ∧ Below w.heap.size w w'
end Go.Proofs.Ytmogncpkdkdodaa
/- The model's l5All: the points of a box in order. -/
namespace Go.Proofs.Ytmogncpkdkdodaa
open Go Go.RowKit Go.Lib

/-- The L numbers from a on. -/
def rngI (a : Int) (L : Nat) : List Int := (List.range L).map fun i : Nat => a + (i : Int)
theorem rngI_len (a : Int) (L : Nat) : (rngI a L).length = L := by simp [rngI]
theorem rngI_get (a : Int) (L i : Nat) (h : i < (rngI a L).length) : (rngI a L)[i] = a + i := by simp [rngI]
theorem axis_rng (e : Nat) : axis e = rngI (-(e : Int)) (2 * e + 1) := by
  unfold axis rngI
  refine List.map_congr_left fun i _ => ?_
  omega
/-- The points that come when the loops stand at i, j. -/
def nextL (R : List Int) (out : List (List Int)) (i j : Nat) : List (List Int) :=
  ((out.take i).flatMap fun p => R.map fun x => p ++ [x]) ++ (R.take j).map fun x => out.getD i [] ++ [x]
theorem nextL_zero (R : List Int) (out : List (List Int)) : nextL R out 0 0 = [] := by simp [nextL]
theorem nextL_step {R : List Int} {out : List (List Int)} {i j : Nat} (hi : i < out.length) (hj : j < R.length) : nextL R out i j ++ [out[i] ++ [R[j]]] = nextL R out i (j + 1) := by
  unfold nextL
  rw [List.append_assoc, List.take_succ_eq_append_getElem hj, List.map_append]
  congr 2
  rw [List.getD_eq_getElem?_getD, List.getElem?_eq_getElem hi]; rfl
theorem nextL_row {R : List Int} {out : List (List Int)} {i : Nat} (hi : i < out.length) : nextL R out i R.length = nextL R out (i + 1) 0 := by
  unfold nextL
  rw [List.take_length, List.take_succ_eq_append_getElem hi, List.flatMap_append, List.getD_eq_getElem?_getD, List.getElem?_eq_getElem hi]
  simp
theorem nextL_all (R : List Int) (out : List (List Int)) : nextL R out out.length 0 = out.flatMap fun p => R.map fun x => p ++ [x] := by simp [nextL]
theorem rowsF_len (R : List Int) (l : List (List Int)) : (l.flatMap fun p => R.map fun x => p ++ [x]).length = l.length * R.length := by
  induction l with
  | nil => simp
  | cons p l ih => rw [List.flatMap_cons, List.length_append, ih, List.length_map, List.length_cons, Nat.succ_mul, Nat.add_comm]
theorem nextL_len {R : List Int} {out : List (List Int)} {i j : Nat} (hi : i ≤ out.length) (hj : j ≤ R.length) : (nextL R out i j).length = i * R.length + j := by
  unfold nextL
  rw [List.length_append, rowsF_len, List.length_take, List.length_map, List.length_take, Nat.min_eq_left hi, Nat.min_eq_left hj]
theorem boxP_len (R : List Int) : ∀ n : Nat, (boxP R n).length = R.length ^ n
  | 0 => rfl
  | n + 1 => by rw [boxP, rowsF_len, boxP_len R n, Nat.pow_succ]
theorem boxP_le {R : List Int} (hR : R.length ≤ 1000) {n : Nat} (hn : n ≤ 2) : (boxP R n).length ≤ 1000000 := by
  rw [boxP_len]
  rcases (by omega : n = 0 ∨ n = 1 ∨ n = 2) with rfl | rfl | rfl
  · simp
  · simp; omega
  · exact Nat.le_trans (Nat.pow_le_pow_left hR 2) (by decide)
theorem nextL_le {R : List Int} {out : List (List Int)} {i j : Nat} (hi : i ≤ out.length) (hj : j ≤ R.length) (hR : R.length ≤ 1000) (ho : out.length ≤ 1000000) : (nextL R out i j).length ≤ 1099511627776 := by
  rw [nextL_len hi hj]
  have : i * R.length ≤ 1000000 * 1000 := Nat.mul_le_mul (by omega) hR
  omega
/-- The list of one empty row. -/
theorem owr_one {T e : TypeId} {w : World} {base : Nat} (hb : base ≤ w.heap.size) :
    OwR T e base ((w.alloc (.cells #[] e)).alloc (.cells #[.slice (some ⟨w.heap.size, 0, none⟩) 0 0] T)).heap.size ((w.alloc (.cells #[] e)).alloc (.cells #[.slice (some ⟨w.heap.size, 0, none⟩) 0 0] T)) (.slice (some ⟨w.heap.size + 1, 0, none⟩) 1 1) [[]] := by
  have h1 : ((w.alloc (.cells #[] e)).alloc (.cells #[.slice (some ⟨w.heap.size, 0, none⟩) 0 0] T)).heap[w.heap.size]? = some (.cells #[] e (0, 0)) :=
    (Below.heap_alloc _ _ _ (by simp)).trans (heap_alloc_new w _)
  have h2 : ((w.alloc (.cells #[] e)).alloc (.cells #[.slice (some ⟨w.heap.size, 0, none⟩) 0 0] T)).heap[w.heap.size + 1]? = some (.cells #[.slice (some ⟨w.heap.size, 0, none⟩) 0 0] T (0, 0)) := by
    have := heap_alloc_new (w.alloc (.cells #[] e)) (.cells #[.slice (some ⟨w.heap.size, 0, none⟩) 0 0] T)
    rwa [World.size_alloc] at this
  refine ⟨[.slice (some ⟨w.heap.size, 0, none⟩) 0 0], rfl, .inr ⟨w.heap.size + 1, 1, _, rfl, by omega, by simp, h2, Nat.le_refl _, by unfold maxLen; omega, rfl, rfl⟩, ?_, ?_, ?_⟩
  · intro i u zs hu hz
    have hi : i = 0 := by have := lt_of_get hu; simp at this; omega
    subst hi
    simp only [List.getElem?_cons_zero, Option.some.injEq] at hu hz
    subst hu; subst hz
    exact .inr ⟨w.heap.size, 0, #[], rfl, by omega, by simp; omega, h1, Nat.le_refl _, by unfold maxLen; omega, rfl, rfl⟩
  · intro i j u u' b hij hu hu'
    have := lt_of_get hu
    have := lt_of_get hu'
    simp at *; omega
  · intro i u b hu hub
    have hi : i = 0 := by have := lt_of_get hu; simp at this; omega
    subst hi
    simp only [List.getElem?_cons_zero, Option.some.injEq] at hu
    subst hu
    simp only [Value.ownBlock, Option.some.injEq] at hub
    intro e
    simp only [Value.ownBlock, Option.some.injEq] at e
    omega

set_option maxRecDepth 100000 in
set_option maxHeartbeats 3200000 in
theorem s_all5 (n L : Nat) (a b : Int) (hn : n ≤ 3) (hL : L ≤ 1000) (hb : b + 1 = a + L) (ha : -1000000 ≤ a ∧ a ≤ 1000000) (w : World) :
    Calls Try.prog 68 #[.int .i64 n, .int .i64 a, .int .i64 b] w (MadeR w (boxP (rngI a L) n)) := by
  have hRl := rngI_len a L
  obtain ⟨a1, a2⟩ := ha
  go_enter Try.func68, Try.ntmps68
  go_wp2
  go_loopw [7, 8] (fun o k wr => ∃ kk : Nat, kk ≤ n ∧ k = .int .i64 kk ∧ OwR 30 3 w.heap.size wr.heap.size wr o (boxP (rngI a L) kk) ∧ Below w.heap.size w wr) (fun _ k _ => n - (RowKit.intOf k).toNat)
  case atStart => exact ⟨0, Nat.zero_le _, rfl, owr_one (Nat.le_refl _), below2 _ _ _⟩
  case round =>
    obtain ⟨k, hk, rfl, how, hbr⟩ := hrel
    rename World => w1
    have HW := Lib.hid how
    have HB := Lib.hid hbr
    obtain ⟨oa, oc, rfl, _, _⟩ := how.rw.shape
    clear how hbr
    by_cases hlt : k < n
    · have hout := boxP_le (R := rngI a L) (by omega) (n := k) (by omega)
      obtain ⟨out, hO⟩ : ∃ out, boxP (rngI a L) k = out := ⟨_, rfl⟩
      have HO := Lib.hid hO
      rw [hO] at HW hout ⊢
      clear hO
      go_wp2
      go_loopw [9, 10] (fun nx i ws => ∃ ii : Nat, ii ≤ out.length ∧ i = .int .i64 ii ∧ OwR 30 3 w1.heap.size ws.heap.size ws nx (nextL (rngI a L) out ii 0) ∧ Below w1.heap.size w1 ws) (fun _ i _ => out.length - (RowKit.intOf i).toNat)
      case atStart => exact ⟨0, Nat.zero_le _, rfl, by rw [nextL_zero]; exact owr_empty (Nat.le_refl _), below1 _ _⟩
      case round =>
        obtain ⟨i, hi, rfl, how, hbr⟩ := hrel
        have HX := Lib.hid how
        have HS := Lib.hid hbr
        clear how hbr
        by_cases hli : i < out.length
        case neg =>
          obtain rfl : i = out.length := by omega
          have HN := Lib.hid (nextL_all (rngI a L) out)
          go_wp2
          refine ⟨⟨k + 1, by omega, by go_num, ?_, HB.out.trans (HS.out.mono HB.out.size)⟩, by simp [RowKit.intOf]; omega⟩
          rw [boxP, HO.out, ← HN.out]
          exact HX.out.mono HB.out.size (Nat.le_refl _)
        rename World => w2
        go_wp2
        go_loopw [9, 11] (fun nx x ws => ∃ jj : Nat, jj ≤ L ∧ x = .int .i64 (a + jj) ∧ OwR 30 3 w1.heap.size ws.heap.size ws nx (nextL (rngI a L) out i jj) ∧ Below w1.heap.size w1 ws) (fun _ x _ => L - (RowKit.intOf x - a).toNat)
        case atStart => exact ⟨0, Nat.zero_le _, by simp, HX.out, HS.out⟩
        case round =>
          obtain ⟨j, hj, rfl, how, hbr⟩ := hrel
          have HX2 := Lib.hid how
          have HS2 := Lib.hid hbr
          clear how hbr
          by_cases hlj : j < L
          case neg =>
            obtain rfl : j = L := by omega
            have HN := Lib.hid (nextL_row (R := rngI a j) hli)
            rw [hRl] at HN
            have hgt : ¬ (a + (j : Int)) ≤ b := by omega
            go_wp2
            exact ⟨⟨i + 1, by omega, by go_num, by rw [← HN.out]; exact HX2.out, HS2.out⟩, by simp [RowKit.intOf]; omega⟩
          have hle : a + (j : Int) ≤ b := by omega
          rename World => w3
          have HA := Lib.hid (HB.out.trans (HS2.out.mono HB.out.size))
          obtain ⟨b1, r, rfl, _, _, hlt1, hcell, _, hor, _, _⟩ := (HW.out.below HS2.out).at i hli rfl
          have hcell4 : (w3.alloc (.cells #[] 3)).cell? ⟨b1, i, none⟩ = some r := ((below1 w3 (.cells #[] 3)).cell (p := ⟨b1, i, none⟩) hlt1).trans hcell
          have HR := Lib.hid (hor.below (below1 w3 (.cells #[] 3)))
          have hlen := boxP_lens (rngI a L) k out[i] (by rw [HO.out]; exact List.getElem_mem hli)
          have hl3 : out[i].length ≤ 3 := by omega
          have HNx := Lib.hid (nextL_step (R := rngI a L) hli (by rw [hRl]; exact hlj))
          have hnl := nextL_le (R := rngI a L) hi (show j ≤ (rngI a L).length by omega) (by omega) hout
          have hnb : 0 + out[i].length ≤ 1099511627776 := by omega
          clear hcell hor hlen
          have i1 : (0 : Int) ≤ (i : Int) := by omega
          go_wp2_with (first | (at_builtin; refine list_app_ints rfl _ _ rfl w3.heap.size (.slice (some ⟨w3.heap.size, 0, none⟩) 0 0) 0 [] out[i] r w.heap.size w1.heap.size rfl (owns_none (Nat.le_refl _)) rfl HR.out hnb (by simp) ?_; intro v5 w5 hown5 hbel5; have HO5 := Lib.hid hown5; have HB5 := Lib.hid ((below1 w3 (.cells #[] 3)).trans hbel5); have hs5 := HB5.out.size; clear hown5 hbel5) | (at_builtin; refine list_app_int2 rfl _ _ rfl w3.heap.size v5 (0 + out[i].length) ([] ++ out[i]) (a + j) rfl (HO5.out.alloc _) w5.heap.size rfl (heap_alloc_new w5 _) hnb (by rw [World.size_alloc]; omega) ?_; intro g6 c6 w6 hown6 hgr6 hpl6; simp only [Nat.zero_add, List.nil_append] at hown6; have HO6 := Lib.hid hown6; have HB6 := Lib.hid (HB5.out.trans (((Below.refl w3.heap.size w5).alloc hs5 (.cells #[.int .i64 (a + j)] 3)).grown hgr6 (by rw [World.size_alloc]; omega) (fun b e => (HO5.out.lt b e).1))); clear hown6 hgr6 hpl6) | (at_builtin; refine list_app_row2 rfl _ _ rfl w1.heap.size w3.heap.size u9 (.slice (some ⟨g6, 0, none⟩) (out[i].length + 1) c6) (nextL (rngI a L) out i j) (out[i] ++ [a + (j : Int)]) rfl ((HX2.out.below HB6.out).below (below1 w6 _)) (((OwnV.of_owns HO6.out).below (below1 w6 _)).mono (Nat.le_refl _) (by simp)) w6.heap.size rfl (heap_alloc_new w6 _) hnl HS2.out.size (by have := HB6.out.size; rw [World.size_alloc]; omega) ?_; intro g7 c7 w7 hown7 hbel7 _ _; have HO7 := Lib.hid hown7; have HB7 := Lib.hid (HS2.out.trans (((HB6.out.mono HS2.out.size).trans ((below1 w6 _).mono (Nat.le_trans HS2.out.size HB6.out.size))).trans hbel7)); clear hown7 hbel7))
          refine ⟨⟨j + 1, by omega, by go_num, ?_, HB7.out⟩, by simp [RowKit.intOf]; omega⟩
          have h7 := HO7.out
          rw [show out[i] ++ [a + (j : Int)] = out[i] ++ [(rngI a L)[j]'(by rw [hRl]; exact hlj)] by rw [rngI_get], HNx.out] at h7
          exact h7
    · obtain rfl : k = n := by omega
      go_wp2
      go_ret
      exact ⟨⟨_, rfl, HW.out⟩, HB.out⟩
end Go.Proofs.Ytmogncpkdkdodaa
