/- The model's PointsIn and CountIn. -/
import Derived.Test.YtmjalcbpdaojpaaPtA
import Derived.Test.YtmjalcbpdaojpaaRegS2
import Derived.Test.YtmjalcbpdaojpaaHfB
namespace Go.Proofs.Ytmjalcbpdaojpaa
open Go Go.RowKit Go.Lib

theorem box_small {e n : Nat} : ∀ {p : List Int}, p ∈ boxP (axis e) n → ∀ x ∈ p, -(e : Int) ≤ x ∧ x ≤ e := by
  induction n with
  | zero => intro p h; simp [boxP] at h; subst h; intro x hx; simp at hx
  | succ n ih =>
    intro p h
    unfold boxP at h
    obtain ⟨q, hq, h⟩ := List.mem_flatMap.1 h
    obtain ⟨y, hy, rfl⟩ := List.mem_map.1 h
    intro x hx
    rcases List.mem_append.1 hx with hx | hx
    · exact ih hq x hx
    · obtain rfl := List.mem_singleton.1 hx
      unfold axis at hy
      obtain ⟨i, hi, rfl⟩ := List.mem_map.1 hy
      rw [List.mem_range] at hi
      omega
theorem box_isV {n : Nat} (h1 : 1 ≤ n) (h3 : n ≤ 3) {p : List Int} (h : p ∈ boxP (axis 6) n) : isV p = true ∧ p.length = n := by
  have hl := boxP_lens _ _ _ h
  refine ⟨?_, hl⟩
  rw [isV_mk (by omega) (by omega)]
  unfold small
  rw [List.all_eq_true]
  intro x hx
  have := box_small h x hx
  exact inR_mk (by omega) (by omega)
theorem box_pt {m : Nat} {hs : List Hf} (hr : regOk m hs = true) {p : List Int} (h : p ∈ boxP (axis 6) m) : ptR ((m : Int), hs) p = true := by
  have h1 : 1 ≤ m := by have := (regOk_t hr).1; omega
  have h3 : m ≤ 3 := by have := (regOk_t hr).2.1; omega
  obtain ⟨k1, k2⟩ := box_isV h1 h3 h
  exact ptR_mk hr k1 (by simp only; omega)
theorem filter_take {p : List Int → Bool} {l : List (List Int)} {k : Nat} (h : k < l.length) : (l.take (k + 1)).filter p = (l.take k).filter p ++ (if p l[k] = true then [l[k]] else []) := by
  rw [List.take_succ_eq_append_getElem h, List.filter_append]
  congr 1
  by_cases hp : p l[k] = true
  · simp [hp]
  · simp [hp]

/-- The slice v and its rows lie in blocks between lo and hi; rows may share a block. -/
def ShR (lo hi : Nat) (w : World) (v : Value) (zss : List (List Int)) : Prop :=
  ∃ vs : List Value, vs.length = zss.length ∧ OwnV 30 lo hi w v vs ∧ ∀ (i : Nat) u zs, vs[i]? = some u → zss[i]? = some zs → OwnV 3 lo hi w u (intVals zs)
theorem ShR.rw {lo hi : Nat} {w : World} {v : Value} {zss : List (List Int)} (h : ShR lo hi w v zss) : Rw w v zss := by
  obtain ⟨vs, h1, h2, h3⟩ := h
  exact ⟨vs, h1, h2.sl, fun i u zs hu hz => (h3 i u zs hu hz).sl⟩
theorem ShR.kept {lo hi a b : Nat} {w w' : World} {v : Value} {zss : List (List Int)} (h : ShR lo hi w v zss) (hk : Kept a b w w') (hd : hi ≤ a ∨ b ≤ lo) : ShR lo hi w' v zss := by
  obtain ⟨vs, h1, h2, h3⟩ := h
  exact ⟨vs, h1, h2.kept hk hd, fun i u zs hu hz => (h3 i u zs hu hz).kept hk hd⟩
theorem ShR.below {lo hi : Nat} {w w' : World} {v : Value} {zss : List (List Int)} (h : ShR lo hi w v zss) (hb : Below w.heap.size w w') : ShR lo hi w' v zss :=
  h.kept (Kept.of_below (lo := hi) (hi := hi) hb) (.inl (Nat.le_refl _))
theorem ShR.mono {lo hi lo' hi' : Nat} {w : World} {v : Value} {zss : List (List Int)} (h : ShR lo hi w v zss) (h1 : lo' ≤ lo) (h2 : hi ≤ hi') : ShR lo' hi' w v zss := by
  obtain ⟨vs, k1, k2, k3⟩ := h
  exact ⟨vs, k1, k2.mono h1 h2, fun i u zs hu hz => (k3 i u zs hu hz).mono h1 h2⟩
/-- Row j: its cell, its numbers. -/
theorem ShR.at {lo hi : Nat} {w : World} {v : Value} {zss : List (List Int)} (h : ShR lo hi w v zss) (j : Nat) (hj : j < zss.length) {a : Option Addr} {n c : Nat} (hv : v = .slice a n c) :
    ∃ (b : Nat) (u : Value), a = some ⟨b, 0, none⟩ ∧ lo ≤ b ∧ b < hi ∧ b < w.heap.size ∧ w.cell? ⟨b, j, none⟩ = some u ∧ OwnV 3 lo hi w u (intVals zss[j]) := by
  obtain ⟨vs, h1, h2, h3⟩ := h
  have hjv : j < vs.length := by omega
  have hu : vs[j]? = some vs[j] := List.getElem?_eq_getElem hjv
  obtain ⟨b, cap, e1, hb1, hb2⟩ := h2.form (by omega)
  rw [hv] at e1
  simp only [Value.slice.injEq] at e1
  obtain ⟨rfl, rfl, rfl⟩ := e1
  have ho := h2.owns
  have hlt := (h2.place (b := b) (by rw [hv]; rfl)).2.2
  rw [hv] at ho
  refine ⟨b, vs[j], rfl, hb1, hb2, hlt, ?_, h3 j _ _ hu (List.getElem?_eq_getElem hj)⟩
  rw [ho.cellAt j (by omega)]; exact hu
/-- What a function leaves whose rows may be shared. -/
def CameR (w : World) (zss : List (List Int)) (e : Ending) (w' : World) : Prop := (∃ v, e = .returned v ∧ ShR w.heap.size w'.heap.size w' v zss) ∧ Below w.heap.size w w'
/-- The rows that have been collected: they lie in blocks from lo to hi, their list elsewhere. -/
def Spine (base lo hi : Nat) (W : World) (v : Value) (zss : List (List Int)) : Prop :=
  ∃ us : List Value, us.length = zss.length ∧ OwnV 30 base W.heap.size W v us ∧ (∀ b, v.ownBlock = some b → b < lo ∨ hi ≤ b) ∧ ∀ (i : Nat) u zs, us[i]? = some u → zss[i]? = some zs → OwnV 3 lo hi W u (intVals zs)
theorem Spine.rw {base lo hi : Nat} {W : World} {v : Value} {zss : List (List Int)} (h : Spine base lo hi W v zss) : Rw W v zss := by
  obtain ⟨us, h1, h2, _, h3⟩ := h
  exact ⟨us, h1, h2.sl, fun i u zs hu hz => (h3 i u zs hu hz).sl⟩
theorem Spine.shr {base lo hi : Nat} {W : World} {v : Value} {zss : List (List Int)} (h : Spine base lo hi W v zss) {B : Nat} (h1 : B ≤ base) (h2 : B ≤ lo) (h3 : hi ≤ W.heap.size) : ShR B W.heap.size W v zss := by
  obtain ⟨us, k1, k2, _, k3⟩ := h
  exact ⟨us, k1, k2.mono h1 (Nat.le_refl _), fun i u zs hu hz => (k3 i u zs hu hz).mono h2 h3⟩
theorem Spine.below {base lo hi : Nat} {W W' : World} {v : Value} {zss : List (List Int)} (h : Spine base lo hi W v zss) (hb : Below W.heap.size W W') : Spine base lo hi W' v zss := by
  obtain ⟨us, h1, h2, h4, h3⟩ := h
  exact ⟨us, h1, (h2.below hb).mono (Nat.le_refl _) hb.size, h4, fun i u zs hu hz => (h3 i u zs hu hz).below hb⟩
/-- append(out, row) where the row is not the list's own. -/
theorem list_app_spine {ops : Array Oper} {rest : List Oper} {o : Oper} {a : Act} {w : World} {Q : Exit → Act → World → Prop} (hgd : o.guard = none) (s x : Operand)
    (ho : o.op = .call { callee := .builtin .append, args := #[s, x], argTypes := #[28, 28] })
    (base lo hi : Nat) (v u : Value) (zss : List (List Int)) (ys : List Int) (hs : a.eval s = v) (hown : Spine base lo hi w v zss) (hu : OwnV 3 lo hi w u (intVals ys))
    (H : Nat) (hx : a.eval x = .slice (some ⟨H, 0, none⟩) 1 1) (hnew : w.heap[H]? = some (.cells #[u] 30 (0, 0)))
    (hn : zss.length ≤ 1099511627776) (hbase : base ≤ w.heap.size) (hhi : hi ≤ w.heap.size)
    (h : ∀ g cap w', Spine base lo hi w' (.slice (some ⟨g, 0, none⟩) (zss.length + 1) cap) (zss ++ [ys]) → w.grownBy w' v.ownBlock → wpList Try.prog ops Q rest (a.put o.dst (.slice (some ⟨g, 0, none⟩) (zss.length + 1) cap)) w') :
    wpList Try.prog ops Q (o :: rest) a w := by
  obtain ⟨i0, hi', hz0, hz1, hz2⟩ := info_parts info_row
  obtain ⟨us, h1, h2, h4, h3⟩ := hown
  refine wpList_append_lies w hgd s x 28 ho base 30 i0 _ 1 24 Try.underlying28 hi' hz0 hz1 hz2 rfl (by omega) v us.length us hs h2.owns ⟨H, 0, none⟩ 1 1 [u] hx rfl (World.news_of_block (cs := #[u]) hnew) (fun q hq => by rw [List.mem_singleton.1 hq]; exact own_one hu) (by omega) (by unfold maxLen; omega) (by omega) hbase w.heap.size rfl ?_
  intro g cap w' k1 k2 k3 k4
  rw [h1] at k1 ⊢
  refine h g cap w' ⟨us ++ [u], by simp [h1], OwnV.of_owns (by simpa [h1] using k1), ?_, ?_⟩ k2
  · intro b hb
    have hgb : g = b := by simpa [Value.ownBlock] using hb
    subst hgb
    rcases k3 with h | h
    · exact h4 _ h
    · exact .inr (by omega)
  · intro i z zs hz hzs
    have hne : ∀ b, z.ownBlock = some b → (lo ≤ b ∧ b < hi) → some b ≠ v.ownBlock := fun b _ hb e => by have := h4 b e.symm; omega
    by_cases hi : i < us.length
    · rw [List.getElem?_append_left hi] at hz
      rw [List.getElem?_append_left (by omega)] at hzs
      have h5 := h3 i z zs hz hzs
      exact h5.grown k2 (fun b hb => hne b hb ⟨(h5.place hb).1, (h5.place hb).2.1⟩)
    · rw [List.getElem?_append_right (by omega)] at hz hzs
      have h0 : i - us.length = 0 := by have := lt_of_get hz; simp at this; omega
      rw [h0] at hz
      rw [← h1, h0] at hzs
      simp only [List.getElem?_cons_zero, Option.some.injEq] at hz hzs
      subst hz; subst hzs
      exact hu.grown k2 (fun b hb => hne b hb ⟨(hu.place hb).1, (hu.place hb).2.1⟩)


/-- What PointsIn's loop keeps: the region's box, all points, those that are in. -/
def PtLoop (w w1 w2 : World) (n : Int) (u A o : Value) (all zss : List (List Int)) (wr : World) : Prop :=
  Bk wr w.heap.size #[.int .i64 n, u] 26 ∧ OwR 30 3 w1.heap.size w2.heap.size wr A all ∧ Spine (w.heap.size + 1) w1.heap.size w2.heap.size wr o zss ∧ Below w.heap.size w wr ∧ w2.heap.size ≤ wr.heap.size

theorem PtLoop.below {w w1 w2 : World} {n : Int} {u A o : Value} {all zss : List (List Int)} {wr wr' : World} (h : PtLoop w w1 w2 n u A o all zss wr) (hb : Below wr.heap.size wr wr') : PtLoop w w1 w2 n u A o all zss wr' :=
  ⟨h.1.below hb, h.2.1.below hb, h.2.2.1.below hb, h.2.2.2.1.trans (hb.mono h.2.2.2.1.size), Nat.le_trans h.2.2.2.2 hb.size⟩
theorem PtLoop.grown {w w1 w2 : World} {n : Int} {u A o o' : Value} {all zss zss' : List (List Int)} {wr wr' : World} (h : PtLoop w w1 w2 n u A o all zss wr) (hg : wr.grownBy wr' o.ownBlock) (hs : Spine (w.heap.size + 1) w1.heap.size w2.heap.size wr' o' zss') : PtLoop w w1 w2 n u A o' all zss' wr' := by
  obtain ⟨h1, h2, h3, h4, h5⟩ := h
  obtain ⟨us, k1, k2, k3, k4⟩ := h3
  have hlo : ∀ b, o.ownBlock = some b → w.heap.size + 1 ≤ b := fun b hb => (k2.place hb).1
  refine ⟨h1.grown hg (fun e => by have := hlo _ e.symm; omega), ?_, hs, h4.grown hg h4.size (fun b hb => by have := hlo b hb; omega), Nat.le_trans h5 hg.size⟩
  exact h2.mid (Mid.grown hg h5 (fun g hg => k3 g hg))

set_option maxRecDepth 100000 in
set_option maxHeartbeats 3200000 in
theorem s_pointsin (r : Rgn) (v : Value) (w : World) (hv : Rg w v r) :
    Calls Try.prog 21 #[v] w (CameR w (ptsR r.1 r.2)) := by
  obtain ⟨n, hs'⟩ := r
  have HR := Lib.hid hv
  obtain ⟨u, rfl, hss⟩ := hv
  simp only at hss ⊢
  have K := Lib.hid ((Bk.new w #[.int .i64 n, u] 26).alloc (.cells #[] 30))
  have B0 := Lib.hid (below2 w (.cells #[.int .i64 n, u] 26) (.cells #[] 30))
  obtain ⟨⟨l0, l1⟩, -⟩ := K.out.two
  clear hss
  by_cases hr : regOk n hs' = true
  case neg =>
    have C1 := Lib.hid (bool_f hr)
    have E := Lib.hid (ptsR_f (bool_f hr))
    clear hr
    go_enter Try.func21, Try.ntmps21
    go_wp2_with fail
    refine (s_isreg (n, hs') _ _ (HR.out.below B0.out)).mono ?_
    rintro e w1 ⟨rfl, hb⟩
    rw [C1.out]
    have B1 := Lib.hid (B0.out.trans (hb.mono B0.out.size))
    have HO := Lib.hid ((OwnV.of_owns (owns_none (w := w.alloc (.cells #[.int .i64 n, u] 26)) (base := w.heap.size) (e := 30) (by simp))).below hb)
    have hz := hb.size
    clear hb
    go_wp2_with fail
    go_ret
    exact ⟨⟨_, rfl, by rw [E.out]; exact ⟨[], rfl, by simpa using HO.out.mono (Nat.le_refl _) hz, fun i u zs hu => by simp at hu⟩⟩, B1.out⟩
  obtain ⟨m, rfl⟩ : ∃ m : Nat, n = m := ⟨n.toNat, by have := (regOk_t hr).1; omega⟩
  have hm1 : 1 ≤ m := by have := (regOk_t hr).1; omega
  have hm3 : m ≤ 3 := by have := (regOk_t hr).2.1; omega
  have C1 := Lib.hid hr
  have E := Lib.hid (show ptsR m hs' = (boxP (axis 6) m).filter (hasL hs') by rw [ptsR_t hr]; rfl)
  have hN := boxP_len (axis 6) m
  have HN := Lib.hid (show (boxP (axis 6) m).length ≤ 2197 by
    rw [hN, axis_len]
    exact Nat.le_trans (Nat.pow_le_pow_right (by omega) hm3) (by decide))
  clear hr hN
  go_enter Try.func21, Try.ntmps21
  go_wp2_with fail
  refine (s_isreg (m, hs') _ _ (HR.out.below B0.out)).mono ?_
  rintro e w1 ⟨rfl, hb⟩
  rw [C1.out]
  have B1 := Lib.hid (B0.out.trans (hb.mono B0.out.size))
  have K1 := Lib.hid (K.out.below hb)
  have HO := Lib.hid ((OwnV.of_owns (owns_none (w := w.alloc (.cells #[.int .i64 m, u] 26)) (base := w.heap.size + 1) (e := 30) (by simp))).below hb)
  have hs1 : w.heap.size + 2 ≤ w1.heap.size := by have := hb.size; simpa using this
  obtain ⟨⟨k0, k1⟩, -⟩ := K1.out.two
  clear hb l0 l1
  go_wp2_with fail
  refine (s_all5 m 13 (-6) 6 hm3 (by omega) (by omega) (by omega) _).mono ?_
  rintro e w2 ⟨⟨A, rfl, ha⟩, hb⟩
  rw [show rngI (-6) 13 = axis 6 from (axis_rng 6).symm] at ha
  obtain ⟨all, hall⟩ : ∃ all, boxP (axis 6) m = all := ⟨_, rfl⟩
  have HAll := Lib.hid hall
  rw [hall] at ha
  rw [hall] at E HN
  obtain ⟨aa, ac, rfl, _, _⟩ := ha.rw.shape
  have HL := Lib.hid (show PtLoop w w1 w2 m u (.slice aa all.length ac) (.slice (some ⟨w.heap.size + 1, 0, none⟩) 0 0) all [] w2 from
    ⟨K1.out.below hb, ha, ⟨[], rfl, by simpa using (HO.out.below hb).mono (Nat.le_refl _) (by have := hb.size; simp; omega), fun b hb => by simp [Value.ownBlock] at hb; omega, fun i u zs hu => by simp at hu⟩, B1.out.trans (hb.mono B1.out.size), Nat.le_refl _⟩)
  clear ha hb hall k0 k1
  go_wp2
  go_loopw [3, 5] (fun o i wr => ∃ k : Nat, k ≤ all.length ∧ i = .int .i64 k ∧ PtLoop w w1 w2 m u (.slice aa all.length ac) o all ((all.take k).filter (hasL hs')) wr) (fun _ i _ => all.length - (RowKit.intOf i).toNat)
  case atStart => exact ⟨0, Nat.zero_le _, rfl, by simpa using HL.out⟩
  case round =>
    obtain ⟨k, hk, rfl, hl⟩ := hrel
    have HI := Lib.hid hl
    by_cases hlt : k < all.length
    case neg =>
      obtain rfl : k = all.length := by omega
      clear hl
      go_wp2
      go_ret
      exact ⟨⟨_, rfl, by have h := HI.out.2.2.1.shr (B := w.heap.size) (Nat.le_succ _) (by omega) HI.out.2.2.2.2; rw [List.take_length] at h; rw [E.out]; exact h⟩, HI.out.2.2.2.1⟩
    obtain ⟨b1, r, rfl, hb1, hb2, hlt1, hcell, _, hor, _, _⟩ := hl.2.1.at k hlt rfl
    have HOr := Lib.hid hor
    obtain ⟨ra, rc, rfl, _⟩ := hor.shape1
    rw [intVals_len] at HOr hcell
    obtain ⟨⟨m0, m1⟩, -⟩ := hl.1.two
    have hkl := hl.1.lt
    have HP := Lib.hid (box_pt (m := m) (hs := hs') C1.out (p := all[k]) (by rw [HAll.out]; exact List.getElem_mem hlt))
    have HF := Lib.hid (filter_take (p := hasL hs') hlt)
    have hfl : ((all.take k).filter (hasL hs')).length ≤ 1099511627776 := by
      have h1 := List.length_filter_le (hasL hs') (all.take k)
      have h2 := List.length_take_le k all
      have := HN.out; omega
    clear hl hor
    rename World => w3
    have i1 : (0 : Int) ≤ (k : Int) := by omega
    obtain ⟨q, hq⟩ : ∃ q, hasL hs' all[k] = q := ⟨_, rfl⟩
    have HQ := Lib.hid hq
    clear hq
    go_wp2_with fail
    go_region_held3 (fun w' => w'.cell? ⟨w.heap.size, 0, none⟩ = some (.int .i64 m) ∧ w'.cell? ⟨w.heap.size, 1, none⟩ = some u ∧ w'.cell? ⟨b1, k, none⟩ = some (.slice ra all[k].length rc) ∧ Below w3.heap.size w3 w')
      (first
        | with_reducible exact keepF3 m0 m1 hcell (Below.refl _ _)
        | (go_split_ands; with_reducible exact keepE3 hkl hkl hlt1 (by assumption) (by assumption) (by assumption) (by assumption) (by assumption))
        | go_keep)
      (first | (go_at_call 64; refine (s_has (m, hs') all[k] _ _ _ HP.out ((HR.out.below HI.out.2.2.2.1).below (Below.refl _ _).drew) (HOr.out.sl.below (Below.refl _ _).drew)).mono ?_; rintro e w4 ⟨rfl, hb4⟩; rw [HQ.out]))
    rename_i hH
    have HI4 := Lib.hid (HI.out.below hH.2.2.2)
    have hcell4 := hH.2.2.1
    have hN2 : all.length ≤ 2197 := HN.out
    have HO4 := Lib.hid (HOr.out.below hH.2.2.2)
    have hs4 := hH.2.2.2.size
    clear hH m0 m1 hcell
    have n4 : w2.heap.size ≤ w4.heap.size := HI4.out.2.2.2.2
    have n5 : w.heap.size + 1 ≤ w4.heap.size := by have := HI4.out.2.2.2.1.size; omega
    cases q with
    | false =>
      have HE := Lib.hid (show (all.take (k + 1)).filter (hasL hs') = (all.take k).filter (hasL hs') by rw [HF.out, HQ.out]; simp)
      go_wp2
      exact ⟨⟨k + 1, by omega, by go_num, by rw [HE.out]; exact HI4.out⟩, by simp [RowKit.intOf]; omega⟩
    | true =>
      have HE := Lib.hid (show (all.take (k + 1)).filter (hasL hs') = (all.take k).filter (hasL hs') ++ [all[k]] by rw [HF.out, HQ.out]; simp)
      go_wp2_with (at_builtin; refine list_app_spine rfl _ _ rfl (w.heap.size + 1) w1.heap.size w2.heap.size u3 (.slice ra all[k].length rc) ((all.take k).filter (hasL hs')) all[k] rfl ((HI4.out.below (below1 w4 _)).2.2.1) (HO4.out.below (below1 w4 _)) w4.heap.size rfl (heap_alloc_new w4 _) hfl (by rw [World.size_alloc]; omega) (by rw [World.size_alloc]; omega) ?_; intro g7 c7 w7 hsp7 hgr7; have HI7 := Lib.hid ((HI4.out.below (below1 w4 _)).grown hgr7 hsp7); clear hsp7 hgr7)
      exact ⟨⟨k + 1, by omega, by go_num, by rw [HE.out]; exact HI7.out⟩, by simp [RowKit.intOf]; omega⟩

theorem tot_le3 : ∀ zss : List (List Int), (∀ z ∈ zss, z.length ≤ 3) → tot zss ≤ 3 * zss.length
  | [], _ => Nat.le_refl _
  | z :: zss, h => by
    have h1 := h z (List.mem_cons_self ..)
    have h2 := tot_le3 zss fun y hy => h y (List.mem_cons_of_mem _ hy)
    simp only [tot, List.map_cons, List.sum_cons, List.length_cons] at h2 ⊢
    omega
theorem ptsL_len {m : Nat} (hm3 : m ≤ 3) (hs : List Hf) : (ptsL m hs).length ≤ 2197 := by
  unfold ptsL
  refine Nat.le_trans (List.length_filter_le ..) ?_
  rw [show ((m : Int)).toNat = m by omega, boxP_len, axis_len]
  exact Nat.le_trans (Nat.pow_le_pow_right (by omega) hm3) (by decide)
theorem ptsR_tot (n : Int) (hs : List Hf) : tot (ptsR n hs) ≤ 6591 := by
  by_cases hr : regOk n hs = true
  · obtain ⟨m, rfl⟩ : ∃ m : Nat, n = m := ⟨n.toNat, by have := (regOk_t hr).1; omega⟩
    have hm3 : m ≤ 3 := by have := (regOk_t hr).2.1; omega
    rw [ptsR_t hr]
    have h1 := tot_le3 (ptsL m hs) fun z hz => by
      have := boxP_lens _ _ _ (List.mem_filter.1 hz).1
      omega
    have h2 := ptsL_len hm3 hs
    omega
  · rw [ptsR_f (bool_f hr)]; decide

theorem rw_shape {W : World} {v : Value} {zss : List (List Int)} (h : Rw W v zss) : ∃ (a : Option Addr) (c : Nat), v = .slice a zss.length c := by
  obtain ⟨a, c, e, _⟩ := h.shape
  exact ⟨a, c, e⟩

set_option maxRecDepth 100000 in
theorem s_countin (r : Rgn) (v : Value) (w : World) (hv : Rg w v r) :
    Calls Try.prog 23 #[v] w (Quiet w (.int .i64 (countR r.1 r.2))) := by
  obtain ⟨n, hs'⟩ := r
  have HR := Lib.hid hv
  obtain ⟨u, rfl, hss⟩ := hv
  simp only at hss ⊢
  have K := Lib.hid (Bk.new w #[.int .i64 n, u] 26)
  have B0 := Lib.hid (below1 w (.cells #[.int .i64 n, u] 26))
  obtain ⟨⟨l0, l1⟩, -⟩ := K.out.two
  clear hss
  by_cases hr : regOk n hs' = true
  case neg =>
    have C1 := Lib.hid (bool_f hr)
    have E := Lib.hid (show countR n hs' = -1 from by unfold countR; rw [bool_f hr]; rfl)
    clear hr
    go_enter Try.func23, Try.ntmps23
    go_wp2_with fail
    refine (s_isreg (n, hs') _ _ (HR.out.below B0.out)).mono ?_
    rintro e w1 ⟨rfl, hb⟩
    rw [C1.out]
    have B1 := Lib.hid (B0.out.trans (hb.mono B0.out.size))
    clear hb
    go_wp2_with fail
    go_ret
    exact ⟨ret_int E.out.symm, B1.out⟩
  have C1 := Lib.hid hr
  have E := Lib.hid (show countR n hs' = (ptsR n hs').length from by unfold countR; rw [if_pos hr, ptsR_t hr])
  clear hr
  go_enter Try.func23, Try.ntmps23
  go_wp2_with fail
  refine (s_isreg (n, hs') _ _ (HR.out.below B0.out)).mono ?_
  rintro e w1 ⟨rfl, hb⟩
  rw [C1.out]
  have B1 := Lib.hid (B0.out.trans (hb.mono B0.out.size))
  obtain ⟨⟨k0, k1⟩, -⟩ := (K.out.below hb).two
  clear hb l0 l1
  go_wp2_with fail
  refine (s_pointsin (n, hs') _ _ (HR.out.below B1.out)).mono ?_
  rintro e w2 ⟨⟨A, rfl, ha⟩, hb⟩
  obtain ⟨aa, ac, rfl⟩ := rw_shape ha.rw
  have B2 := Lib.hid (B1.out.trans (hb.mono B1.out.size))
  clear ha hb k0 k1
  go_wp2_with fail
  go_ret
  exact ⟨ret_int E.out.symm, B2.out⟩
end Go.Proofs.Ytmjalcbpdaojpaa
