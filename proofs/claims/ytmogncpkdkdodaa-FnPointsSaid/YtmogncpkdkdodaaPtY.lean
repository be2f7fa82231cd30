/- The model's SliceOf. -/
import Derived.Test.YtmogncpkdkdodaaMap
import Derived.Test.YtmogncpkdkdodaaOrd
import Derived.Test.YtmogncpkdkdodaaMab
import Derived.Test.YtmogncpkdkdodaaMar
import Derived.Test.YtmogncpkdkdodaaMax
import Derived.Deep.DeepCutAuto
import Derived.Tactics2
namespace Go.Proofs.Ytmogncpkdkdodaa
open Go Go.RowKit Go.Lib

/-- append(out, ys...) at a step of a region that draws its order, with what it changes. -/
theorem step_app_slg {ops : Array Oper} {o : Oper} {a : Act} {w : World} {K : Act → World → Prop} {Q : Exit → Act → World → Prop} {E : Prop} (hgd : o.guard = none) (s x : Operand)
    (ho : o.op = .call { callee := .builtin .append, args := #[s, x], argTypes := #[30, 30] })
    (base : Nat) (v : Value) (n : Nat) (xs ys : List Int) (hs : a.eval s = v) (hown : w.ownsRow base 3 1 v n (intVals xs))
    (ad : Addr) (m c : Nat) (hx : a.eval x = .slice (some ad) m c) (hm : ys.length = m) (hc : ∀ (j : Nat) u, (intVals ys)[j]? = some u → w.cell? (ad.add j) = some u)
    (hn : n + m ≤ 1099511627776) (hbase : base ≤ w.heap.size)
    (h : ∀ v' w', w'.ownsRow base 3 1 v' (n + m) (intVals (xs ++ ys)) → w.grownBy w' v.ownBlock → Below base w w' → K (a.put o.dst v') w') :
    if Region.wanted o (yielded ops a.tmps) = true then Oper.wp Try.prog o a w K Q else E := by
  obtain ⟨i0, hi, hz0, hz1, hz2⟩ := info_parts info_int'
  have hw : Region.wanted o (yielded ops a.tmps) = true := by simp [Region.wanted, hgd]
  rw [if_pos hw]
  obtain ⟨v', w', hr, h2, h3, _, _⟩ := run_append_own_at (P := Try.prog) w base 30 o.type 3 i0 _ 1 8 Try.underlying30 hi hz0 hz1 hz2 rfl (by omega) v n _ hown ad m c (intVals ys) (by rw [intVals_len, hm, Nat.mul_one]) hc (by intro q hq; obtain ⟨z, _, rfl⟩ := List.mem_map.1 hq; rfl) (by unfold maxLen; omega) (by omega) hbase
  unfold Oper.wp execOp
  simp only [ho, resolve, invoke, builtin, Sem.run_bind, Sem.run_pure, Result.andThen_ok, List.map_toArray, List.map_cons, List.map_nil, hs, hx, hr]
  refine h v' w' (by rw [show intVals (xs ++ ys) = intVals xs ++ intVals ys by simp [intVals]]; exact h2) h3 ((Below.refl base w).grown h3 hbase ?_)
  intro k hk
  exact (hown.lt k hk).1
theorem wp_app_slg {o : Oper} {a : Act} {w : World} {K : Act → World → Prop} {Q : Exit → Act → World → Prop} (s x : Operand)
    (ho : o.op = .call { callee := .builtin .append, args := #[s, x], argTypes := #[30, 30] })
    (base : Nat) (v : Value) (n : Nat) (xs ys : List Int) (hs : a.eval s = v) (hown : w.ownsRow base 3 1 v n (intVals xs))
    (ad : Addr) (m c : Nat) (hx : a.eval x = .slice (some ad) m c) (hm : ys.length = m) (hc : ∀ (j : Nat) u, (intVals ys)[j]? = some u → w.cell? (ad.add j) = some u)
    (hn : n + m ≤ 1099511627776) (hbase : base ≤ w.heap.size)
    (h : ∀ v' w', w'.ownsRow base 3 1 v' (n + m) (intVals (xs ++ ys)) → w.grownBy w' v.ownBlock → Below base w w' → (v'.ownBlock = v.ownBlock ∨ v'.ownBlock = some w.heap.size) → K (a.put o.dst v') w') :
    Oper.wp Try.prog o a w K Q := by
  obtain ⟨i0, hi, hz0, hz1, hz2⟩ := info_parts info_int'
  obtain ⟨v', w', hr, h2, h3, _, h5⟩ := run_append_own_at (P := Try.prog) w base 30 o.type 3 i0 _ 1 8 Try.underlying30 hi hz0 hz1 hz2 rfl (by omega) v n _ hown ad m c (intVals ys) (by rw [intVals_len, hm, Nat.mul_one]) hc (by intro q hq; obtain ⟨z, _, rfl⟩ := List.mem_map.1 hq; rfl) (by unfold maxLen; omega) (by omega) hbase
  unfold Oper.wp execOp
  simp only [ho, resolve, invoke, builtin, Sem.run_bind, Sem.run_pure, Result.andThen_ok, List.map_toArray, List.map_cons, List.map_nil, hs, hx, hr]
  refine h v' w' (by rw [show intVals (xs ++ ys) = intVals xs ++ intVals ys by simp [intVals]]; exact h2) h3 ((Below.refl base w).grown h3 hbase ?_) h5
  intro k hk
  exact (hown.lt k hk).1
theorem T_gen {P : Program} {md : Region.Mode} {ops : Array Oper} {Q : Exit → Act → World → Prop} {S : World → Prop} {z : Nat → Bool} {f : Nat} {listed : Array Bool} {a : Act} {w : World} (h : ∀ W, W = w → wpAnyT P md ops Q S z f listed a W) : wpAnyT P md ops Q S z f listed a w := h w rfl
/-- The half's box is there, apart from the list. -/
def BoxH (w3 W : World) (v : Value) (H : Nat) : Prop := Bk W H #[.slice none 0 0, .int .i64 0] 48 ∧ w3.heap.size ≤ H ∧ v.ownBlock ≠ some H
/-- The list so far. -/
def ListH (w3 W : World) (v : Value) (n : Nat) (xs : List Int) : Prop := Below w3.heap.size w3 W ∧ W.ownsRow w3.heap.size 3 1 v n (intVals xs)
theorem BoxH.app {w3 W W' : World} {v v' : Value} {H : Nat} (h : BoxH w3 W v H) (hg : W.grownBy W' v.ownBlock) (hp : v'.ownBlock = v.ownBlock ∨ v'.ownBlock = some W.heap.size) : BoxH w3 W' v' H :=
  ⟨h.1.grown hg (fun e => h.2.2 e.symm), h.2.1, fun e => hp.elim (fun e2 => h.2.2 (by rw [← e2]; exact e)) (fun e2 => by rw [e2] at e; have := h.1.lt; have := Option.some.inj e; omega)⟩
theorem ListH.box {w3 W : World} {v : Value} {n : Nat} {xs : List Int} (h : ListH w3 W v n xs) : BoxH w3 (W.alloc (.cells #[.slice none 0 0, .int .i64 0] 48)) v W.heap.size ∧ ListH w3 (W.alloc (.cells #[.slice none 0 0, .int .i64 0] 48)) v n xs :=
  ⟨⟨Bk.new _ _ _, h.1.size, fun e => by have := (h.2.lt _ e).2; omega⟩, h.1.alloc h.1.size _, h.2.alloc _⟩
theorem listH_new {w3 W : World} (h : Below w3.heap.size w3 W) : ListH w3 (W.alloc (.cells #[] 3)) (.slice (some ⟨W.heap.size, 0, none⟩) 0 0) 0 [] := ⟨h.alloc h.size _, owns_none h.size⟩
/-- Two numbers may come up. -/
theorem T_two {P : Program} {md : Region.Mode} {ops : Array Oper} {Q : Exit → Act → World → Prop} {S : World → Prop} {z : Nat → Bool} {i j : Nat} {oi oj : Oper} {f : Nat} {listed : Array Bool} {a : Act} {w : World} (hi : ops[i]? = some oi) (hj : ops[j]? = some oj) (hr : Region.ready md ops listed = [i, j]) (hiz : z i = false) (hjz : z j = false) (hwi : Region.wanted oi (yielded ops a.tmps) = true) (hwj : Region.wanted oj (yielded ops a.tmps) = true)
    (h1 : ∀ K : Act → World → Prop, Shut (∀ a' w', S w' → wpAnyT P md ops Q S z f (listed.setIfInBounds i true) a' w' → K a' w') → Oper.wp P oi a w K Q)
    (h2 : ∀ K : Act → World → Prop, Shut (∀ a' w', S w' → wpAnyT P md ops Q S z f (listed.setIfInBounds j true) a' w' → K a' w') → Oper.wp P oj a w K Q) : wpAnyT P md ops Q S z (f + 1) listed a w := by
  refine ⟨fun h0 => (by rw [hr] at h0; cases h0), fun q hq => ?_⟩
  rw [hr] at hq
  rcases List.mem_cons.1 hq with rfl | hq
  · unfold wpOp
    rw [hi]
    simp only [hwi, if_true]
    exact .inl (h1 _ fun a' w' hS h => ⟨fun _ => hS, h⟩)
  · obtain rfl := List.mem_singleton.1 hq
    unfold wpOp
    rw [hj]
    simp only [hwj, if_true]
    exact .inl (h2 _ fun a' w' hS h => ⟨fun _ => hS, h⟩)
theorem keepB3 {B : Nat} {W w1 : World} {p q r : Addr} {x y z : Value} (hb : Below B W w1) (hp : p.block < B) (hq : q.block < B) (hr : r.block < B) (h1 : W.cell? p = some x) (h2 : W.cell? q = some y) (h3 : W.cell? r = some z) : w1.cell? p = some x ∧ w1.cell? q = some y ∧ w1.cell? r = some z :=
  ⟨(hb.cell hp).trans h1, (hb.cell hq).trans h2, (hb.cell hr).trans h3⟩
/-- What one round's region leaves: the half's box. -/
def CutH (W : World) (a : List Int) (bd : Int) (s : Value) (wx : World) : Prop :=
  ∃ (H : Nat) (rv : Value), s = .pointer (some ⟨H, 0, none⟩) ∧ Bk wx H #[rv, .int .i64 bd] 48 ∧ OwnV 3 W.heap.size wx.heap.size wx rv (intVals a) ∧ Below W.heap.size W wx ∧ W.heap.size ≤ H
theorem CutH.store {W wx : World} {a : List Int} {bd : Int} {H : Nat} {rv x y : Value} (hB : Bk wx H #[x, y] 48) (ho : OwnV 3 W.heap.size wx.heap.size wx rv (intVals a)) (hb : Below W.heap.size W wx) (hH : W.heap.size ≤ H) :
    CutH W a bd (.pointer (some ⟨H, 0, none⟩)) ((wx.setCell ⟨H, 0, none⟩ rv).setCell ⟨H, 1, none⟩ (.int .i64 bd)) :=
  ⟨H, rv, rfl, (hB.set0 _).set1 _, ((ho.other (p := ⟨H, 0, none⟩) hB (by decide) _).other (p := ⟨H, 1, none⟩) (hB.set0 _) (by decide) _).mono (Nat.le_refl _) (by simp [World.setCell]), (hb.setCell (p := ⟨H, 0, none⟩) hH _).setCell (p := ⟨H, 1, none⟩) hH _, hH⟩
theorem CutH.fresh {W wx : World} {a : List Int} {bd : Int} {rv : Value} (ho : OwnV 3 W.heap.size wx.heap.size wx rv (intVals a)) (hb : Below W.heap.size W wx) :
    CutH W a bd (.pointer (some ⟨wx.heap.size, 0, none⟩)) (wx.alloc (.cells #[rv, .int .i64 bd] 48)) :=
  ⟨wx.heap.size, rv, rfl, Bk.new _ _ _, (ho.below (below1 _ _)).mono (Nat.le_refl _) (by simp), hb.alloc hb.size _, hb.size⟩
theorem CutH.below {W wx : World} {a : List Int} {bd : Int} {s : Value} (h : CutH W a bd s wx) : Below W.heap.size W wx := by
  obtain ⟨H, rv, _, _, _, hb, _⟩ := h
  exact hb
/-- What SliceOf's loop keeps: the region's box, the answer's box, the box of what it builds. -/
def SlS (w : World) (O : Nat) (n : Int) (U V : Value) (ks : List Hf) (wr : World) : Prop :=
  Bk wr w.heap.size #[.int .i64 n, U] 26 ∧ Bk wr (w.heap.size + 1) #[.int .i64 0, .slice none 0 0] 26 ∧ Bk wr O #[.int .i64 (n - 1), V] 26 ∧ OwH 48 3 (O + 1) wr.heap.size wr V ks ∧ Below w.heap.size w wr ∧ w.heap.size + 2 ≤ O ∧ O < wr.heap.size
theorem SlS.below {w : World} {O : Nat} {n : Int} {U V : Value} {ks : List Hf} {wr wr' : World} (h : SlS w O n U V ks wr) (hb : Below wr.heap.size wr wr') : SlS w O n U V ks wr' :=
  ⟨h.1.below hb, h.2.1.below hb, h.2.2.1.below hb, (h.2.2.2.1.below hb).mono (Nat.le_refl _) hb.size, h.2.2.2.2.1.trans (hb.mono h.2.2.2.2.1.size), h.2.2.2.2.2.1, Nat.lt_of_lt_of_le h.2.2.2.2.2.2 hb.size⟩
theorem SlS.since {w : World} {O : Nat} {n : Int} {U V : Value} {ks : List Hf} {wr wr' : World} (h : SlS w O n U V ks wr) (hb : Below wr.heap.size wr wr') : Below w.heap.size w wr' := h.2.2.2.2.1.trans (hb.mono h.2.2.2.2.1.size)


set_option maxRecDepth 100000 in
set_option maxHeartbeats 3200000 in
theorem s_slice_f1 (n : Int) (hs' : List Hf) (k z : Int) (u : Value) (w : World) (hv : Rg w (.agg #[.int .i64 n, u]) (n, hs')) (hr : regOk n hs' = false) :
    Calls Try.prog 18 #[.agg #[.int .i64 n, u], .int .i64 k, .int .i64 z] w (GotG w ((0, []), false)) := by
  have HR := Lib.hid hv
  have C1 := Lib.hid hr
  have K := Lib.hid (Bk.pair w #[.int .i64 n, u] #[.int .i64 0, .slice none 0 0] 26 26)
  have B0 := Lib.hid (below2 w (.cells #[.int .i64 n, u] 26) (.cells #[.int .i64 0, .slice none 0 0] 26))
  obtain ⟨⟨l0, l1⟩, -⟩ := K.out.1.two
  clear hv hr
  go_enter Try.func18, Try.ntmps18
  go_wp2_with fail
  refine (s_isreg (n, hs') _ _ (HR.out.below B0.out)).mono ?_
  rintro e w1 ⟨rfl, hb⟩
  rw [C1.out]
  have B1 := Lib.hid (B0.out.trans (hb.mono B0.out.size))
  have K1 := Lib.hid (And.intro (K.out.1.below hb) (K.out.2.below hb))
  clear hb l0 l1
  obtain ⟨⟨m0, m1⟩, -⟩ := K1.out.1.two
  obtain ⟨⟨p0, p1⟩, pf0, pf1⟩ := K1.out.2.two
  go_wp2
  refine bodyPost_ret (v := .tuple #[.agg #[.int .i64 0, .slice none 0 0], .bool false]) ?_ rfl ⟨⟨_, rfl, OwG.zero⟩, (B1.out.setCell (by simp) _).setCell (by simp) _⟩
  simp [results, Try.results18, go_sem, p0, p1]


set_option maxRecDepth 100000 in
set_option maxHeartbeats 3200000 in
theorem s_slice_f2 (n : Int) (hs' : List Hf) (k z : Int) (u : Value) (w : World) (hv : Rg w (.agg #[.int .i64 n, u]) (n, hs')) (hr : regOk n hs' = true) (h1 : (n == 1) = true) :
    Calls Try.prog 18 #[.agg #[.int .i64 n, u], .int .i64 k, .int .i64 z] w (GotG w ((0, []), false)) := by
  have HR := Lib.hid hv
  have C1 := Lib.hid hr
  have K := Lib.hid (Bk.pair w #[.int .i64 n, u] #[.int .i64 0, .slice none 0 0] 26 26)
  have B0 := Lib.hid (below2 w (.cells #[.int .i64 n, u] 26) (.cells #[.int .i64 0, .slice none 0 0] 26))
  obtain ⟨⟨l0, l1⟩, -⟩ := K.out.1.two
  clear hv hr
  go_enter Try.func18, Try.ntmps18
  go_wp2_with fail
  refine (s_isreg (n, hs') _ _ (HR.out.below B0.out)).mono ?_
  rintro e w1 ⟨rfl, hb⟩
  rw [C1.out]
  have B1 := Lib.hid (B0.out.trans (hb.mono B0.out.size))
  have K1 := Lib.hid (And.intro (K.out.1.below hb) (K.out.2.below hb))
  clear hb l0 l1
  obtain ⟨⟨m0, m1⟩, -⟩ := K1.out.1.two
  obtain ⟨⟨p0, p1⟩, pf0, pf1⟩ := K1.out.2.two
  go_wp2
  refine bodyPost_ret (v := .tuple #[.agg #[.int .i64 0, .slice none 0 0], .bool false]) ?_ rfl ⟨⟨_, rfl, OwG.zero⟩, (B1.out.setCell (by simp) _).setCell (by simp) _⟩
  simp [results, Try.results18, go_sem, p0, p1]


set_option maxRecDepth 100000 in
set_option maxHeartbeats 3200000 in
theorem s_slice_f3 (n : Int) (hs' : List Hf) (k z : Int) (u : Value) (w : World) (hv : Rg w (.agg #[.int .i64 n, u]) (n, hs')) (hr : regOk n hs' = true) (h1 : (n == 1) = false) (h2 : inR k 0 (n - 1) = false) (hn : n ≤ 3) (hn0 : 1 ≤ n) :
    Calls Try.prog 18 #[.agg #[.int .i64 n, u], .int .i64 k, .int .i64 z] w (GotG w ((0, []), false)) := by
  have HR := Lib.hid hv
  have C1 := Lib.hid hr
  have K := Lib.hid (Bk.pair w #[.int .i64 n, u] #[.int .i64 0, .slice none 0 0] 26 26)
  have B0 := Lib.hid (below2 w (.cells #[.int .i64 n, u] 26) (.cells #[.int .i64 0, .slice none 0 0] 26))
  obtain ⟨⟨l0, l1⟩, -⟩ := K.out.1.two
  clear hv hr
  have H2 := Lib.hid h2
  clear h2
  go_enter Try.func18, Try.ntmps18
  go_wp2_with fail
  refine (s_isreg (n, hs') _ _ (HR.out.below B0.out)).mono ?_
  rintro e w1 ⟨rfl, hb⟩
  rw [C1.out]
  have B1 := Lib.hid (B0.out.trans (hb.mono B0.out.size))
  have K1 := Lib.hid (And.intro (K.out.1.below hb) (K.out.2.below hb))
  clear hb l0 l1
  obtain ⟨⟨m0, m1⟩, -⟩ := K1.out.1.two
  obtain ⟨⟨p0, p1⟩, pf0, pf1⟩ := K1.out.2.two
  go_wp2_with fail
  refine (s_in k 0 (n - 1) _).mono ?_
  rintro e w2 ⟨rfl, rfl⟩
  rw [H2.out]
  go_wp2
  refine bodyPost_ret (v := .tuple #[.agg #[.int .i64 0, .slice none 0 0], .bool false]) ?_ rfl ⟨⟨_, rfl, OwG.zero⟩, (B1.out.setCell (by simp) _).setCell (by simp) _⟩
  simp [results, Try.results18, go_sem, p0, p1]


set_option maxRecDepth 100000 in
set_option maxHeartbeats 3200000 in
theorem s_slice_f4 (n : Int) (hs' : List Hf) (k z : Int) (u : Value) (w : World) (hv : Rg w (.agg #[.int .i64 n, u]) (n, hs')) (hr : regOk n hs' = true) (h1 : (n == 1) = false) (h2 : inR k 0 (n - 1) = true) (h3 : inR z (-6) 6 = false) (hn : n ≤ 3) (hn0 : 1 ≤ n) :
    Calls Try.prog 18 #[.agg #[.int .i64 n, u], .int .i64 k, .int .i64 z] w (GotG w ((0, []), false)) := by
  have HR := Lib.hid hv
  have C1 := Lib.hid hr
  have K := Lib.hid (Bk.pair w #[.int .i64 n, u] #[.int .i64 0, .slice none 0 0] 26 26)
  have B0 := Lib.hid (below2 w (.cells #[.int .i64 n, u] 26) (.cells #[.int .i64 0, .slice none 0 0] 26))
  obtain ⟨⟨l0, l1⟩, -⟩ := K.out.1.two
  clear hv hr
  have H2 := Lib.hid h2
  have H3 := Lib.hid h3
  clear h2 h3
  go_enter Try.func18, Try.ntmps18
  go_wp2_with fail
  refine (s_isreg (n, hs') _ _ (HR.out.below B0.out)).mono ?_
  rintro e w1 ⟨rfl, hb⟩
  rw [C1.out]
  have B1 := Lib.hid (B0.out.trans (hb.mono B0.out.size))
  have K1 := Lib.hid (And.intro (K.out.1.below hb) (K.out.2.below hb))
  clear hb l0 l1
  obtain ⟨⟨m0, m1⟩, -⟩ := K1.out.1.two
  obtain ⟨⟨p0, p1⟩, pf0, pf1⟩ := K1.out.2.two
  go_wp2_with fail
  refine (s_in k 0 (n - 1) _).mono ?_
  rintro e w2 ⟨rfl, rfl⟩
  rw [H2.out]
  go_wp2_with fail
  refine (s_in z (-6) 6 _).mono ?_
  rintro e w2 ⟨rfl, rfl⟩
  rw [H3.out]
  go_wp2
  refine bodyPost_ret (v := .tuple #[.agg #[.int .i64 0, .slice none 0 0], .bool false]) ?_ rfl ⟨⟨_, rfl, OwG.zero⟩, (B1.out.setCell (by simp) _).setCell (by simp) _⟩
  simp [results, Try.results18, go_sem, p0, p1]


set_option maxRecDepth 100000 in
set_option maxHeartbeats 6400000 in
theorem s_slice_t (N : Nat) (hs' : List Hf) (k : Nat) (z : Int) (u : Value) (w : World) (hv : Rg w (.agg #[.int .i64 N, u]) ((N : Int), hs')) (hr : regOk N hs' = true) (h1 : 2 ≤ N) (h3 : k < N) (h4 : -6 ≤ z) (h5 : z ≤ 6) :
    Calls Try.prog 18 #[.agg #[.int .i64 N, u], .int .i64 k, .int .i64 z] w (GotG w (slRes N k z hs')) := by
  have HR := Lib.hid hv
  have C1 := Lib.hid hr
  have R8 := Lib.hid (regOk_t hr)
  have K := Lib.hid (Bk.pair w #[.int .i64 N, u] #[.int .i64 0, .slice none 0 0] 26 26)
  have B0 := Lib.hid (below2 w (.cells #[.int .i64 N, u] 26) (.cells #[.int .i64 0, .slice none 0 0] 26))
  have hN3 : N ≤ 3 := by have := R8.out.2.1; omega
  obtain ⟨⟨l0, l1⟩, -⟩ := K.out.1.two
  obtain ⟨_, e0, hss⟩ := hv
  simp only [Value.agg.injEq, Array.mk.injEq, List.cons.injEq, and_true, true_and] at e0
  subst e0
  have HV := Lib.hid hss
  obtain ⟨p, c, rfl, hm⟩ := hss.shape
  unfold maxLen at hm
  clear hss hr
  have h2 : ((N : Int) == 1) = false := by rw [beq_eq_false_iff_ne]; omega
  have H2 := Lib.hid (show inR (k : Int) 0 ((N : Int) - 1) = true from inR_mk (by omega) (by omega))
  have H3 := Lib.hid (show inR z (-6) 6 = true from inR_mk h4 h5)
  go_enter Try.func18, Try.ntmps18
  go_wp2_with fail
  refine (s_isreg ((N : Int), hs') _ _ (HR.out.below B0.out)).mono ?_
  rintro e w1 ⟨rfl, hb⟩
  rw [C1.out]
  have B1 := Lib.hid (B0.out.trans (hb.mono B0.out.size))
  have K1 := Lib.hid (And.intro (K.out.1.below hb) (K.out.2.below hb))
  have Z1 := Lib.hid (show w.heap.size + 2 ≤ w1.heap.size from K1.out.2.lt)
  clear hb l0 l1
  obtain ⟨⟨m0, m1⟩, -⟩ := K1.out.1.two
  go_wp2_with fail
  refine (s_in k 0 ((N : Int) - 1) _).mono ?_
  rintro e w2 ⟨rfl, rfl⟩
  rw [H2.out]
  go_wp2_with fail
  refine (s_in z (-6) 6 _).mono ?_
  rintro e w2 ⟨rfl, rfl⟩
  rw [H3.out]
  have HI := Lib.hid (show SlS w w1.heap.size N (.slice p hs'.length c) (.slice none 0 0) (slL k z (hs'.take 0)) (w1.alloc (.cells #[.int .i64 ((N : Int) - 1), .slice none 0 0] 26)) from
    ⟨K1.out.1.alloc _, K1.out.2.alloc _, Bk.new _ _ _, OwH.nil, B1.out.alloc B1.out.size _, Z1.out, by simp⟩)
  go_wp2
  clear m0 m1
  go_loopw [9] (fun i wr => ∃ (j : Nat) (V : Value), j ≤ hs'.length ∧ i = .int .i64 j ∧ (hs'.take j).all (slOk k z) = true ∧ SlS w w1.heap.size N (.slice p hs'.length c) V (slL k z (hs'.take j)) wr) (fun i _ => hs'.length - (RowKit.intOf i).toNat)
  case atStart => exact ⟨0, _, Nat.zero_le _, rfl, rfl, HI.out⟩
  case round =>
    obtain ⟨j, V, hj, rfl, hal, hci⟩ := hrel
    have HC := Lib.hid hci
    have HAl := Lib.hid hal
    obtain ⟨⟨l0, l1⟩, -⟩ := hci.1.two
    clear hal
    rename World => w3
    by_cases hlt : j < hs'.length
    case neg =>
      obtain rfl : j = hs'.length := by omega
      have HE := Lib.hid (show hs'.all (slOk k z) = true by have h := HAl.out; rw [List.take_length] at h; exact h)
      have hoo := hci.2.2.2.1
      rw [List.take_length] at hoo
      obtain ⟨va, vc, rfl, _⟩ := hoo.hs.shape
      have HO := Lib.hid hoo
      obtain ⟨⟨o0, o1⟩, -⟩ := hci.2.2.1.two
      clear hci hoo
      go_wp2_with fail
      refine (s_isreg ((N : Int) - 1, slL k z hs') _ _ ⟨_, rfl, HO.out.hs⟩).mono ?_
      rintro e w4 ⟨rfl, hb⟩
      have HC4 := Lib.hid (HC.out.below hb)
      have HO4 := Lib.hid (HO.out.below hb)
      have HZ4 := Lib.hid hb.size
      clear hb o0 o1
      obtain ⟨⟨p0, p1⟩, pf0, pf1⟩ := HC4.out.2.1.two
      by_cases cr : regOk ((N : Int) - 1) (slL k z hs') = true
      · rw [show regOk ((N : Int) - 1, slL k z hs').1 ((N : Int) - 1, slL k z hs').2 = true from cr]
        have HRes := Lib.hid (slRes_t HE.out cr)
        obtain ⟨⟨o0, o1⟩, -⟩ := HC4.out.2.2.1.two
        clear cr
        go_wp2
        rw [HRes.out]
        refine bodyPost_ret (v := .tuple #[.agg #[.int .i64 ((N : Int) - 1), .slice va (slL k z hs').length vc], .bool true]) ?_ rfl ⟨⟨_, rfl, _, rfl, ?_⟩, (HC4.out.2.2.2.2.1.setCell (by simp) _).setCell (by simp) _⟩
        · simp [results, Try.results18, go_sem, p0, p1]
        · have hz := HC4.out.2.2.2.2.2.1
          exact (HO4.out.kept (((Kept.refl (w.heap.size + 1) (w.heap.size + 2) w4).setCell (by simp) (by simp) _).setCell (by simp) (by simp) _) (.inr (by omega))).mono (by omega) (by simp [World.setCell]; exact HZ4.out)
      · rw [show regOk ((N : Int) - 1, slL k z hs').1 ((N : Int) - 1, slL k z hs').2 = false from by simpa using cr]
        have HRes := Lib.hid (slRes_g HE.out (by simpa using cr))
        clear cr
        go_wp2
        rw [HRes.out]
        refine bodyPost_ret (v := .tuple #[.agg #[.int .i64 0, .slice none 0 0], .bool false]) ?_ rfl ⟨⟨_, rfl, OwG.zero⟩, (HC4.out.2.2.2.2.1.setCell (by simp) _).setCell (by simp) _⟩
        simp [results, Try.results18, go_sem, p0, p1]
    obtain ⟨va, vc, rfl, _⟩ := hci.2.2.2.1.hs.shape
    obtain ⟨b, off, y, rfl, _, hb2, hcell, hcell1, hsx⟩ := HV.out.half j hlt rfl
    rw [← HC.out.2.2.2.2.1.cell (p := ⟨b, off + j * 2, none⟩) hb2] at hcell
    rw [← HC.out.2.2.2.2.1.cell (p := ⟨b, off + j * 2 + 1, none⟩) hb2] at hcell1
    have HB2 := Lib.hid (Nat.lt_of_lt_of_le hb2 HC.out.2.2.2.2.1.size)
    have HX0 := Lib.hid (hsx.below HC.out.2.2.2.2.1)
    obtain ⟨xa, xc, rfl, _, hopen⟩ := HX0.out.shape
    rw [intVals_len] at hopen hcell HX0
    have hk1 := halfOk_t (R8.out.2.2.2 j hlt)
    obtain ⟨a, ha⟩ : ∃ q, hs'[j].1 = q := ⟨_, rfl⟩
    obtain ⟨bd, hbd⟩ : ∃ q, hs'[j].2 = q := ⟨_, rfl⟩
    have hlen : a.length = N := by rw [← ha]; have := hk1.2.2.1; omega
    rw [ha] at hcell hopen HX0
    rw [hbd] at hcell1
    rw [hlen] at hcell HX0 hopen
    obtain ⟨b3, o3, rfl, hc3, hlt3, hx3⟩ := hopen (by omega)
    have hkl : k < a.length := by omega
    have hak : (intVals a)[k]? = some (.int .i64 a[k]) := intVals_get a k hkl
    have mk := hx3 k _ hak
    have HX := Lib.hid hx3
    have e1 : IntKind.i64.wrap ((k : Int) + 1) = (k : Int) + 1 := IntWalk.i64_in _ (by omega)
    have hnrc : N ≤ xc := hc3
    have i1 : (0 : Int) ≤ (k : Int) := by omega
    have i2 : (k : Int) ≤ (xc : Int) := by omega
    have i3 : (0 : Int) ≤ (k : Int) + 1 := by omega
    have i4 : (k : Int) + 1 ≤ (N : Int) := by omega
    have i5 : (k : Int) < (N : Int) := by omega
    have j1 : (0 : Int) ≤ (j : Int) := by omega
    have j2 : (j : Int) < (hs'.length : Int) := by omega
    have HT := Lib.hid (fun (j : Nat) u (h : (intVals (a.take k))[j]? = some u) => HX.out j u (by
      have hj := lt_of_get h
      rw [intVals_len, List.length_take] at hj
      simp only [intVals, List.getElem?_map, List.getElem?_take] at h ⊢
      rwa [if_pos (by omega)] at h))
    obtain ⟨o4, hif, hcd⟩ : ∃ o4 : Nat, (if xc = k + 1 then some (⟨b3, o3, none⟩ : Addr) else some ⟨b3, o3 + (k + 1), none⟩) = some ⟨b3, o4, none⟩ ∧ ∀ (j : Nat) u, (intVals (a.drop (k + 1)))[j]? = some u → w3.cell? ⟨b3, o4 + j, none⟩ = some u := by
      by_cases hz : xc = k + 1
      · refine ⟨o3, if_pos hz, fun j u h => ?_⟩
        have hj := lt_of_get h
        rw [intVals_len, List.length_drop] at hj
        omega
      · refine ⟨o3 + (k + 1), if_neg hz, fun j u h => ?_⟩
        have h2 := HX.out (k + 1 + j) u (by
          simp only [intVals, List.getElem?_map, List.getElem?_drop] at h ⊢
          exact h)
        rwa [← Nat.add_assoc] at h2
    have HIF := Lib.hid hif
    have HD := Lib.hid hcd
    have q1 : w.heap.size < w3.heap.size := hci.1.lt
    have q2 : b < w3.heap.size := HB2.out
    have q3 : b3 < w3.heap.size := hlt3
    have nb : -20 ≤ a[k] ∧ a[k] ≤ 20 := by have h := hk1.2.2.2.1; rw [ha] at h; exact h k hkl
    have n3 : -200 ≤ bd ∧ bd ≤ 200 := by rw [← hbd]; omega
    have np := mul_bd (x := a[k]) (y := z) (m := 20) (n := 6) nb.1 nb.2 (by omega) (by omega)
    obtain ⟨n5, n6⟩ := np
    have HSl := Lib.hid (show slH k z hs'[j] = (cutN k a, bd - a[k] * z) by
      unfold slH
      rw [ha, hbd, List.getD_eq_getElem?_getD, List.getElem?_eq_getElem hkl]; rfl)
    have HT2 := Lib.hid (all_take' (f := slOk k z) hlt HAl.out)
    have HNo := Lib.hid (all_not' (f := slOk k z) (m := hs') hlt)
    have HLT := Lib.hid (slL_take (k := k) (z := z) hlt)
    generalize hakk : a[k] = ak at mk n5 n6 HSl
    have hll : a.length - 1 = N - 1 := by omega
    have wr1 : IntKind.i64.wrap (ak * z) = ak * z := IntWalk.i64_in _ (by omega)
    have wr2 : IntKind.i64.wrap (bd - ak * z) = bd - ak * z := IntWalk.i64_in _ (by omega)
    have HBa := Lib.hid (show Bd a 20 by have h := hk1.2.2.2.1; rw [ha] at h; exact h)
    clear hci hif hcd hx3 hopen hk1 hak hsx nb
    go_wp2
    go_cut [11] (fun s wx => CutH w3 (cutN k a) (bd - ak * z) s wx)
    case first =>
      refine T_begin (z := fun _ => false) (S := (fun (w' : World) => w'.cell? ⟨w.heap.size, 1, none⟩ = some (.slice (some ⟨b, off, none⟩) hs'.length c) ∧ w'.cell? ⟨b, off + j * 2 + 1, none⟩ = some (.int .i64 bd) ∧ w'.cell? ⟨b3, o3 + k, none⟩ = some (.int .i64 ak))) (by kernel_rfl) ?_
      show wpAnyT _ _ _ _ _ _ 26 _ _ _
      have hS0 := Lib.hid (show (fun (w' : World) => w'.cell? ⟨w.heap.size, 1, none⟩ = some (.slice (some ⟨b, off, none⟩) hs'.length c) ∧ w'.cell? ⟨b, off + j * 2 + 1, none⟩ = some (.int .i64 bd) ∧ w'.cell? ⟨b3, o3 + k, none⟩ = some (.int .i64 ak)) w3.drew from ⟨l1, hcell1, mk⟩)
      refine T_take (i := 1) (v := (.slice (some ⟨b3, o3, none⟩) N xc)) rfl (by kernel_rfl) (by kernel_rfl) (by kernel_rfl) (by kernel_rfl) (fun _ _ _ h => h) hS0.out (by kernel_rfl) (fun w' hS' => by obtain ⟨s1, s2, s3⟩ := hS'; clear hS0; go_simp) ?_
      refine T_take (i := 2) (v := .int .i64 k) rfl (by kernel_rfl) (by kernel_rfl) (by kernel_rfl) (by kernel_rfl) (fun _ _ _ h => h) hS0.out (by kernel_rfl) (fun w' hS' => by obtain ⟨s1, s2, s3⟩ := hS'; clear hS0; go_simp) ?_
      refine T_take (i := 3) (v := .slice (some ⟨b3, o3, none⟩) k xc) rfl (by kernel_rfl) (by kernel_rfl) (by kernel_rfl) (by kernel_rfl) (fun _ _ _ h => h) hS0.out (by kernel_rfl) (fun w' hS' => by obtain ⟨s1, s2, s3⟩ := hS'; clear hS0; go_simp) ?_
      refine T_take (i := 5) (v := (.slice (some ⟨b3, o3, none⟩) N xc)) rfl (by kernel_rfl) (by kernel_rfl) (by kernel_rfl) (by kernel_rfl) (fun _ _ _ h => h) hS0.out (by kernel_rfl) (fun w' hS' => by obtain ⟨s1, s2, s3⟩ := hS'; clear hS0; go_simp) ?_
      refine T_take (i := 6) (v := .int .i64 k) rfl (by kernel_rfl) (by kernel_rfl) (by kernel_rfl) (by kernel_rfl) (fun _ _ _ h => h) hS0.out (by kernel_rfl) (fun w' hS' => by obtain ⟨s1, s2, s3⟩ := hS'; clear hS0; go_simp) ?_
      refine T_take (i := 7) (v := .int .i64 ((k : Int) + 1)) rfl (by kernel_rfl) (by kernel_rfl) (by kernel_rfl) (by kernel_rfl) (fun _ _ _ h => h) hS0.out (by kernel_rfl) (fun w' hS' => by obtain ⟨s1, s2, s3⟩ := hS'; clear hS0; go_simp) ?_
      refine T_take (i := 8) (v := .slice (some ⟨b3, o4, none⟩) (N - (k + 1)) (xc - (k + 1))) rfl (by kernel_rfl) (by kernel_rfl) (by kernel_rfl) (by kernel_rfl) (fun _ _ _ h => h) hS0.out (by kernel_rfl) (fun w' hS' => by obtain ⟨s1, s2, s3⟩ := hS'; clear hS0; go_simp; exact HIF.out) ?_
      refine T_take (i := 10) (v := .pointer (some ⟨w.heap.size, 1, none⟩)) rfl (by kernel_rfl) (by kernel_rfl) (by kernel_rfl) (by kernel_rfl) (fun _ _ _ h => h) hS0.out (by kernel_rfl) (fun w' hS' => by obtain ⟨s1, s2, s3⟩ := hS'; clear hS0; go_simp) ?_
      refine T_take (i := 11) (v := .slice (some ⟨b, off, none⟩) hs'.length c) rfl (by kernel_rfl) (by kernel_rfl) (by kernel_rfl) (by kernel_rfl) (fun _ _ _ h => h) hS0.out (by kernel_rfl) (fun w' hS' => by obtain ⟨s1, s2, s3⟩ := hS'; clear hS0; go_simp) ?_
      refine T_take (i := 12) (v := .int .i64 j) rfl (by kernel_rfl) (by kernel_rfl) (by kernel_rfl) (by kernel_rfl) (fun _ _ _ h => h) hS0.out (by kernel_rfl) (fun w' hS' => by obtain ⟨s1, s2, s3⟩ := hS'; clear hS0; go_simp) ?_
      refine T_take (i := 13) (v := .pointer (some ⟨b, off + j * 2, none⟩)) rfl (by kernel_rfl) (by kernel_rfl) (by kernel_rfl) (by kernel_rfl) (fun _ _ _ h => h) hS0.out (by kernel_rfl) (fun w' hS' => by obtain ⟨s1, s2, s3⟩ := hS'; clear hS0; go_simp) ?_
      refine T_take (i := 14) (v := .pointer (some ⟨b, off + j * 2 + 1, none⟩)) rfl (by kernel_rfl) (by kernel_rfl) (by kernel_rfl) (by kernel_rfl) (fun _ _ _ h => h) hS0.out (by kernel_rfl) (fun w' hS' => by obtain ⟨s1, s2, s3⟩ := hS'; clear hS0; go_simp) ?_
      refine T_take (i := 15) (v := .int .i64 bd) rfl (by kernel_rfl) (by kernel_rfl) (by kernel_rfl) (by kernel_rfl) (fun _ _ _ h => h) hS0.out (by kernel_rfl) (fun w' hS' => by obtain ⟨s1, s2, s3⟩ := hS'; clear hS0; go_simp) ?_
      refine T_take (i := 16) (v := (.slice (some ⟨b3, o3, none⟩) N xc)) rfl (by kernel_rfl) (by kernel_rfl) (by kernel_rfl) (by kernel_rfl) (fun _ _ _ h => h) hS0.out (by kernel_rfl) (fun w' hS' => by obtain ⟨s1, s2, s3⟩ := hS'; clear hS0; go_simp) ?_
      refine T_take (i := 17) (v := .int .i64 k) rfl (by kernel_rfl) (by kernel_rfl) (by kernel_rfl) (by kernel_rfl) (fun _ _ _ h => h) hS0.out (by kernel_rfl) (fun w' hS' => by obtain ⟨s1, s2, s3⟩ := hS'; clear hS0; go_simp) ?_
      refine T_take (i := 18) (v := .pointer (some ⟨b3, o3 + k, none⟩)) rfl (by kernel_rfl) (by kernel_rfl) (by kernel_rfl) (by kernel_rfl) (fun _ _ _ h => h) hS0.out (by kernel_rfl) (fun w' hS' => by obtain ⟨s1, s2, s3⟩ := hS'; clear hS0; go_simp) ?_
      refine T_take (i := 19) (v := .int .i64 ak) rfl (by kernel_rfl) (by kernel_rfl) (by kernel_rfl) (by kernel_rfl) (fun _ _ _ h => h) hS0.out (by kernel_rfl) (fun w' hS' => by obtain ⟨s1, s2, s3⟩ := hS'; clear hS0; go_simp) ?_
      refine T_take (i := 20) (v := .int .i64 z) rfl (by kernel_rfl) (by kernel_rfl) (by kernel_rfl) (by kernel_rfl) (fun _ _ _ h => h) hS0.out (by kernel_rfl) (fun w' hS' => by obtain ⟨s1, s2, s3⟩ := hS'; clear hS0; go_simp) ?_
      refine T_take (i := 21) (v := .int .i64 (ak * z)) rfl (by kernel_rfl) (by kernel_rfl) (by kernel_rfl) (by kernel_rfl) (fun _ _ _ h => h) hS0.out (by kernel_rfl) (fun w' hS' => by obtain ⟨s1, s2, s3⟩ := hS'; clear hS0; go_simp) ?_
      refine T_take (i := 22) (v := .int .i64 (bd - ak * z)) rfl (by kernel_rfl) (by kernel_rfl) (by kernel_rfl) (by kernel_rfl) (fun _ _ _ h => h) hS0.out (by kernel_rfl) (fun w' hS' => by obtain ⟨s1, s2, s3⟩ := hS'; clear hS0; go_simp) ?_
      clear hS0
      refine T_two (i := 0) (j := 24) rfl rfl (by kernel_rfl) rfl rfl (by kernel_rfl) (by kernel_rfl) ?_ ?_
      · intro K hK
        go_simp
        refine hK.out _ _ (keepB3 (show Below w3.heap.size w3 _ from (below1 w3 _).drew) q1 q2 q3 l1 hcell1 mk) ?_
        clear hK K
        refine T_gen ?_
        intro W31 hW31
        have L31 := Lib.hid (show ListH w3 W31 (.slice (some ⟨w3.heap.size, 0, none⟩) 0 0) 0 [] from by rw [hW31]; exact ⟨(below1 w3 _).drew, (owns_none (Nat.le_refl _)).drew⟩)
        clear hW31
        refine T_two (i := 4) (j := 24) rfl rfl (by kernel_rfl) rfl rfl (by kernel_rfl) (by kernel_rfl) ?_ ?_
        · intro K hK
          refine wp_app_slg _ _ (by rfl) w3.heap.size (.slice (some ⟨w3.heap.size, 0, none⟩) 0 0) (0) ([]) (a.take k) (by rfl) L31.out.2 ⟨b3, o3, none⟩ k xc (by rfl) (by rw [List.length_take]; omega) (cells_below L31.out.1 hlt3 HT.out) (by omega) L31.out.1.size ?_
          intro v32 w32 hown hgr hbel hpl
          have L32 := Lib.hid (show ListH w3 w32 v32 (0 + k) ([] ++ a.take k) from ⟨L31.out.1.trans hbel, hown⟩)
          refine hK.out _ _ (keepB3 L32.out.1 q1 q2 q3 l1 hcell1 mk) ?_
          clear hK K hown hgr hbel hpl
          refine T_two (i := 9) (j := 24) rfl rfl (by kernel_rfl) rfl rfl (by kernel_rfl) (by kernel_rfl) ?_ ?_
          · intro K hK
            refine wp_app_slg _ _ (by rfl) w3.heap.size v32 (0 + k) ([] ++ a.take k) (a.drop (k + 1)) (by rfl) L32.out.2 ⟨b3, o4, none⟩ (N - (k + 1)) (xc - (k + 1)) (by rfl) (by rw [List.length_drop]; omega) (cells_below L32.out.1 hlt3 HD.out) (by omega) L32.out.1.size ?_
            intro v33 w33 hown hgr hbel hpl
            have L33 := Lib.hid (show ListH w3 w33 v33 (0 + k + (N - (k + 1))) ([] ++ a.take k ++ a.drop (k + 1)) from ⟨L32.out.1.trans hbel, hown⟩)
            have nn33 : (0 + k + (N - (k + 1)) : Nat) = N - 1 := by omega
            obtain ⟨ra33, rc33, ev33, _⟩ := (OwnV.of_owns hown).shape1
            have le33 : (intVals ([] ++ a.take k ++ a.drop (k + 1))).length = N - 1 := by rw [intVals_len]; simp only [List.length_append, List.length_take, List.length_drop, List.length_nil]; omega
            rw [le33] at ev33
            subst ev33
            refine hK.out _ _ (keepB3 L33.out.1 q1 q2 q3 l1 hcell1 mk) ?_
            clear hK K hown hgr hbel hpl
            refine T_take (i := 23) (v := .agg #[(.slice ra33 (N - 1) rc33), .int .i64 (bd - ak * z)]) rfl (by kernel_rfl) (by kernel_rfl) (by kernel_rfl) (by kernel_rfl) (fun _ _ _ h => h) (keepB3 L33.out.1 q1 q2 q3 l1 hcell1 mk) (by kernel_rfl) (fun w' hS' => by clear hS'; go_simp) ?_
            refine T_step (i := 24) rfl (by kernel_rfl) rfl (by kernel_rfl) ?_
            intro K hK
            go_simp
            refine hK.out _ _ (keepB3 (show Below w3.heap.size w3 _ from (L33.out.box).2.1) q1 q2 q3 l1 hcell1 mk) ?_
            clear hK K
            refine T_gen ?_
            intro W34 hW34
            have B34 := Lib.hid (show BoxH w3 W34 (.slice ra33 (N - 1) rc33) w33.heap.size from by rw [hW34]; exact (L33.out.box).1)
            have L34 := Lib.hid (show ListH w3 W34 (.slice ra33 (N - 1) rc33) (0 + k + (N - (k + 1))) ([] ++ a.take k ++ a.drop (k + 1)) from by rw [hW34]; exact (L33.out.box).2)
            clear hW34
            obtain ⟨⟨g0, g1⟩, f0, f1⟩ := B34.out.1.two
            refine T_step (i := 25) rfl (by kernel_rfl) rfl (by kernel_rfl) ?_
            intro K hK
            go_simp
            have hC := Lib.hid (show CutH w3 (cutN k a) (bd - ak * z) _ _ from CutH.store B34.out.1 (OwnV.of_owns L34.out.2) L34.out.1 B34.out.2.1)
            have hCb := Lib.hid (show Below w3.heap.size w3 _ from hC.out.below)
            refine hK.out _ _ (keepB3 hCb.out q1 q2 q3 l1 hcell1 mk) ?_
            clear hK K
            refine ⟨by kernel_rfl, ?_⟩
            go_wp2_with fail
            go_meet
            exact hC.out
          · intro K hK
            go_simp
            refine hK.out _ _ (keepB3 (show Below w3.heap.size w3 _ from (L32.out.box).2.1) q1 q2 q3 l1 hcell1 mk) ?_
            clear hK K
            refine T_gen ?_
            intro W35 hW35
            have B35 := Lib.hid (show BoxH w3 W35 v32 w32.heap.size from by rw [hW35]; exact (L32.out.box).1)
            have L35 := Lib.hid (show ListH w3 W35 v32 (0 + k) ([] ++ a.take k) from by rw [hW35]; exact (L32.out.box).2)
            clear hW35
            refine T_step (i := 9) rfl (by kernel_rfl) rfl (by kernel_rfl) ?_
            intro K hK
            refine wp_app_slg _ _ (by rfl) w3.heap.size v32 (0 + k) ([] ++ a.take k) (a.drop (k + 1)) (by rfl) L35.out.2 ⟨b3, o4, none⟩ (N - (k + 1)) (xc - (k + 1)) (by rfl) (by rw [List.length_drop]; omega) (cells_below L35.out.1 hlt3 HD.out) (by omega) L35.out.1.size ?_
            intro v36 w36 hown hgr hbel hpl
            have L36 := Lib.hid (show ListH w3 w36 v36 (0 + k + (N - (k + 1))) ([] ++ a.take k ++ a.drop (k + 1)) from ⟨L35.out.1.trans hbel, hown⟩)
            have B36 := Lib.hid (B35.out.app hgr hpl)
            have nn36 : (0 + k + (N - (k + 1)) : Nat) = N - 1 := by omega
            obtain ⟨ra36, rc36, ev36, _⟩ := (OwnV.of_owns hown).shape1
            have le36 : (intVals ([] ++ a.take k ++ a.drop (k + 1))).length = N - 1 := by rw [intVals_len]; simp only [List.length_append, List.length_take, List.length_drop, List.length_nil]; omega
            rw [le36] at ev36
            subst ev36
            refine hK.out _ _ (keepB3 L36.out.1 q1 q2 q3 l1 hcell1 mk) ?_
            clear hK K hown hgr hbel hpl
            refine T_take (i := 23) (v := .agg #[(.slice ra36 (N - 1) rc36), .int .i64 (bd - ak * z)]) rfl (by kernel_rfl) (by kernel_rfl) (by kernel_rfl) (by kernel_rfl) (fun _ _ _ h => h) (keepB3 L36.out.1 q1 q2 q3 l1 hcell1 mk) (by kernel_rfl) (fun w' hS' => by clear hS'; go_simp) ?_
            obtain ⟨⟨g0, g1⟩, f0, f1⟩ := B36.out.1.two
            refine T_step (i := 25) rfl (by kernel_rfl) rfl (by kernel_rfl) ?_
            intro K hK
            go_simp
            have hC := Lib.hid (show CutH w3 (cutN k a) (bd - ak * z) _ _ from CutH.store B36.out.1 (OwnV.of_owns L36.out.2) L36.out.1 B36.out.2.1)
            have hCb := Lib.hid (show Below w3.heap.size w3 _ from hC.out.below)
            refine hK.out _ _ (keepB3 hCb.out q1 q2 q3 l1 hcell1 mk) ?_
            clear hK K
            refine ⟨by kernel_rfl, ?_⟩
            go_wp2_with fail
            go_meet
            exact hC.out
        · intro K hK
          go_simp
          refine hK.out _ _ (keepB3 (show Below w3.heap.size w3 _ from (L31.out.box).2.1) q1 q2 q3 l1 hcell1 mk) ?_
          clear hK K
          refine T_gen ?_
          intro W37 hW37
          have B37 := Lib.hid (show BoxH w3 W37 (.slice (some ⟨w3.heap.size, 0, none⟩) 0 0) W31.heap.size from by rw [hW37]; exact (L31.out.box).1)
          have L37 := Lib.hid (show ListH w3 W37 (.slice (some ⟨w3.heap.size, 0, none⟩) 0 0) (0) ([]) from by rw [hW37]; exact (L31.out.box).2)
          clear hW37
          refine T_step (i := 4) rfl (by kernel_rfl) rfl (by kernel_rfl) ?_
          intro K hK
          refine wp_app_slg _ _ (by rfl) w3.heap.size (.slice (some ⟨w3.heap.size, 0, none⟩) 0 0) (0) ([]) (a.take k) (by rfl) L37.out.2 ⟨b3, o3, none⟩ k xc (by rfl) (by rw [List.length_take]; omega) (cells_below L37.out.1 hlt3 HT.out) (by omega) L37.out.1.size ?_
          intro v38 w38 hown hgr hbel hpl
          have L38 := Lib.hid (show ListH w3 w38 v38 (0 + k) ([] ++ a.take k) from ⟨L37.out.1.trans hbel, hown⟩)
          have B38 := Lib.hid (B37.out.app hgr hpl)
          refine hK.out _ _ (keepB3 L38.out.1 q1 q2 q3 l1 hcell1 mk) ?_
          clear hK K hown hgr hbel hpl
          refine T_step (i := 9) rfl (by kernel_rfl) rfl (by kernel_rfl) ?_
          intro K hK
          refine wp_app_slg _ _ (by rfl) w3.heap.size v38 (0 + k) ([] ++ a.take k) (a.drop (k + 1)) (by rfl) L38.out.2 ⟨b3, o4, none⟩ (N - (k + 1)) (xc - (k + 1)) (by rfl) (by rw [List.length_drop]; omega) (cells_below L38.out.1 hlt3 HD.out) (by omega) L38.out.1.size ?_
          intro v39 w39 hown hgr hbel hpl
          have L39 := Lib.hid (show ListH w3 w39 v39 (0 + k + (N - (k + 1))) ([] ++ a.take k ++ a.drop (k + 1)) from ⟨L38.out.1.trans hbel, hown⟩)
          have B39 := Lib.hid (B38.out.app hgr hpl)
          have nn39 : (0 + k + (N - (k + 1)) : Nat) = N - 1 := by omega
          obtain ⟨ra39, rc39, ev39, _⟩ := (OwnV.of_owns hown).shape1
          have le39 : (intVals ([] ++ a.take k ++ a.drop (k + 1))).length = N - 1 := by rw [intVals_len]; simp only [List.length_append, List.length_take, List.length_drop, List.length_nil]; omega
          rw [le39] at ev39
          subst ev39
          refine hK.out _ _ (keepB3 L39.out.1 q1 q2 q3 l1 hcell1 mk) ?_
          clear hK K hown hgr hbel hpl
          refine T_take (i := 23) (v := .agg #[(.slice ra39 (N - 1) rc39), .int .i64 (bd - ak * z)]) rfl (by kernel_rfl) (by kernel_rfl) (by kernel_rfl) (by kernel_rfl) (fun _ _ _ h => h) (keepB3 L39.out.1 q1 q2 q3 l1 hcell1 mk) (by kernel_rfl) (fun w' hS' => by clear hS'; go_simp) ?_
          obtain ⟨⟨g0, g1⟩, f0, f1⟩ := B39.out.1.two
          refine T_step (i := 25) rfl (by kernel_rfl) rfl (by kernel_rfl) ?_
          intro K hK
          go_simp
          have hC := Lib.hid (show CutH w3 (cutN k a) (bd - ak * z) _ _ from CutH.store B39.out.1 (OwnV.of_owns L39.out.2) L39.out.1 B39.out.2.1)
          have hCb := Lib.hid (show Below w3.heap.size w3 _ from hC.out.below)
          refine hK.out _ _ (keepB3 hCb.out q1 q2 q3 l1 hcell1 mk) ?_
          clear hK K
          refine ⟨by kernel_rfl, ?_⟩
          go_wp2_with fail
          go_meet
          exact hC.out
      · intro K hK
        go_simp
        refine hK.out _ _ (keepB3 (show Below w3.heap.size w3 _ from (below1 w3 _).drew) q1 q2 q3 l1 hcell1 mk) ?_
        clear hK K
        refine T_gen ?_
        intro W40 hW40
        have B40 := Lib.hid (show Bk W40 w3.heap.size #[.slice none 0 0, .int .i64 0] 48 from by rw [hW40]; exact Bk.new w3 _ _)
        have F40 := Lib.hid (show Below w3.heap.size w3 W40 from by rw [hW40]; exact (below1 w3 _).drew)
        clear hW40
        refine T_step (i := 0) rfl (by kernel_rfl) rfl (by kernel_rfl) ?_
        intro K hK
        go_simp
        refine hK.out _ _ (keepB3 (show Below w3.heap.size w3 _ from (F40.out.alloc F40.out.size _)) q1 q2 q3 l1 hcell1 mk) ?_
        clear hK K
        refine T_gen ?_
        intro W41 hW41
        have L41 := Lib.hid (show ListH w3 W41 (.slice (some ⟨W40.heap.size, 0, none⟩) 0 0) 0 [] from by rw [hW41]; exact listH_new F40.out)
        have B41 := Lib.hid (show BoxH w3 W41 (.slice (some ⟨W40.heap.size, 0, none⟩) 0 0) w3.heap.size from by rw [hW41]; exact ⟨B40.out.alloc _, Nat.le_refl _, fun e => by have h := B40.out.lt; simp only [Value.ownBlock, Option.some.injEq] at e; omega⟩)
        clear hW41
        refine T_step (i := 4) rfl (by kernel_rfl) rfl (by kernel_rfl) ?_
        intro K hK
        refine wp_app_slg _ _ (by rfl) w3.heap.size (.slice (some ⟨W40.heap.size, 0, none⟩) 0 0) (0) ([]) (a.take k) (by rfl) L41.out.2 ⟨b3, o3, none⟩ k xc (by rfl) (by rw [List.length_take]; omega) (cells_below L41.out.1 hlt3 HT.out) (by omega) L41.out.1.size ?_
        intro v42 w42 hown hgr hbel hpl
        have L42 := Lib.hid (show ListH w3 w42 v42 (0 + k) ([] ++ a.take k) from ⟨L41.out.1.trans hbel, hown⟩)
        have B42 := Lib.hid (B41.out.app hgr hpl)
        refine hK.out _ _ (keepB3 L42.out.1 q1 q2 q3 l1 hcell1 mk) ?_
        clear hK K hown hgr hbel hpl
        refine T_step (i := 9) rfl (by kernel_rfl) rfl (by kernel_rfl) ?_
        intro K hK
        refine wp_app_slg _ _ (by rfl) w3.heap.size v42 (0 + k) ([] ++ a.take k) (a.drop (k + 1)) (by rfl) L42.out.2 ⟨b3, o4, none⟩ (N - (k + 1)) (xc - (k + 1)) (by rfl) (by rw [List.length_drop]; omega) (cells_below L42.out.1 hlt3 HD.out) (by omega) L42.out.1.size ?_
        intro v43 w43 hown hgr hbel hpl
        have L43 := Lib.hid (show ListH w3 w43 v43 (0 + k + (N - (k + 1))) ([] ++ a.take k ++ a.drop (k + 1)) from ⟨L42.out.1.trans hbel, hown⟩)
        have B43 := Lib.hid (B42.out.app hgr hpl)
        have nn43 : (0 + k + (N - (k + 1)) : Nat) = N - 1 := by omega
        obtain ⟨ra43, rc43, ev43, _⟩ := (OwnV.of_owns hown).shape1
        have le43 : (intVals ([] ++ a.take k ++ a.drop (k + 1))).length = N - 1 := by rw [intVals_len]; simp only [List.length_append, List.length_take, List.length_drop, List.length_nil]; omega
        rw [le43] at ev43
        subst ev43
        refine hK.out _ _ (keepB3 L43.out.1 q1 q2 q3 l1 hcell1 mk) ?_
        clear hK K hown hgr hbel hpl
        refine T_take (i := 23) (v := .agg #[(.slice ra43 (N - 1) rc43), .int .i64 (bd - ak * z)]) rfl (by kernel_rfl) (by kernel_rfl) (by kernel_rfl) (by kernel_rfl) (fun _ _ _ h => h) (keepB3 L43.out.1 q1 q2 q3 l1 hcell1 mk) (by kernel_rfl) (fun w' hS' => by clear hS'; go_simp) ?_
        obtain ⟨⟨g0, g1⟩, f0, f1⟩ := B43.out.1.two
        refine T_step (i := 25) rfl (by kernel_rfl) rfl (by kernel_rfl) ?_
        intro K hK
        go_simp
        have hC := Lib.hid (show CutH w3 (cutN k a) (bd - ak * z) _ _ from CutH.store B43.out.1 (OwnV.of_owns L43.out.2) L43.out.1 B43.out.2.1)
        have hCb := Lib.hid (show Below w3.heap.size w3 _ from hC.out.below)
        refine hK.out _ _ (keepB3 hCb.out q1 q2 q3 l1 hcell1 mk) ?_
        clear hK K
        refine ⟨by kernel_rfl, ?_⟩
        go_wp2_with fail
        go_meet
        exact hC.out
    obtain ⟨wd, hwd⟩ : ∃ q, q = wc := ⟨_, rfl⟩
    subst hwd
    obtain ⟨Hb, rv, rfl, hBH, hor, hbc, hHb⟩ := hcut
    obtain ⟨ra, rc, rfl, _⟩ := hor.shape1
    have hcl : (cutN k a).length = N - 1 := by rw [cutN_len hkl]; omega
    rw [intVals_len, hcl] at hor hBH
    have HBH := Lib.hid hBH
    have HOr := Lib.hid hor
    have HCd := Lib.hid (HC.out.below hbc)
    have HHb := Lib.hid hHb
    have hbd3 := Lib.hid hbc
    have hBd : Bd (cutN k a) 20 := cutN_bdd HBa.out
    obtain ⟨⟨h0, h1⟩, -⟩ := hBH.two
    clear hBH hor hbc hHb hcell hcell1 mk l0 l1
    obtain ⟨q, hq⟩ : ∃ q, allG (cutN k a) = q := ⟨_, rfl⟩
    have HQ := Lib.hid hq
    clear hq
    go_wp2_with fail
    refine (s_all (cutN k a) 20 (by omega) (by omega) hBd _ _ HOr.out.sl).mono ?_
    rintro e w5 ⟨rfl, hb⟩
    rw [HQ.out]
    have HC5 := Lib.hid (HCd.out.below hb)
    have hbd5 := Lib.hid hb
    have HB5 := Lib.hid (HBH.out.below hb)
    have HO5 := Lib.hid (HOr.out.below hb)
    have HZ5 := Lib.hid (show wd.heap.size ≤ w5.heap.size from hb.size)
    have hZd : w3.heap.size ≤ wd.heap.size := by have := HOr.out; have := HBH.out.lt; have := HHb.out; omega
    clear hb h0 h1
    have hqs : (slH k z hs'[j]).1 = cutN k a ∧ (slH k z hs'[j]).2 = bd - ak * z := by rw [HSl.out]; exact ⟨rfl, rfl⟩
    have HQs := Lib.hid hqs
    clear hqs
    obtain ⟨⟨h0, h1⟩, -⟩ := HB5.out.two
    by_cases hq0 : 0 < q
    · have hok : slOk k z hs'[j] = true := by unfold slOk; rw [HQs.out.1, HQ.out, decide_eq_true hq0]; rfl
      have HAl2 := Lib.hid (HT2.out hok)
      have HL2 := Lib.hid (show slL k z (hs'.take (j + 1)) = slL k z (hs'.take j) ++ [(cutN k a, bd - ak * z)] by rw [HLT.out, if_pos (by rw [HQs.out.1, HQ.out]; exact hq0), HSl.out])
      have hkl8 : (slL k z (hs'.take j)).length ≤ 1099511627776 := by
        have g1 := slL_len k z (hs'.take j)
        rw [List.length_take] at g1
        have := R8.out.2.2.1; omega
      obtain ⟨⟨m0, m1⟩, f0, f1⟩ := HC5.out.2.2.1.two
      have hO3 : w1.heap.size + 1 ≤ w3.heap.size := HC.out.2.2.2.2.2.2
      have HV5 := Lib.hid (show OwH 48 3 (w1.heap.size + 1) w3.heap.size w5 (.slice va (slL k z (hs'.take j)).length vc) (slL k z (hs'.take j)) from (HC.out.2.2.2.1.below hbd3.out).below hbd5.out)
      have hw5 : w3.heap.size ≤ w5.heap.size := Nat.le_trans hZd HZ5.out
      have hwd5 : wd.heap.size ≤ w5.heap.size := HZ5.out
      go_wp2_with (at_builtin; refine list_app_half rfl _ _ rfl (w1.heap.size + 1) w3.heap.size _ _ (slL k z (hs'.take j)) (cutN k a, bd - ak * z) rfl (HV5.out.below (below1 w5 _)) ((HO5.out.below (below1 w5 _)).mono (Nat.le_refl _) (by rw [World.size_alloc]; omega)) w5.heap.size rfl (heap_alloc_new w5 _) hkl8 hO3 (by rw [World.size_alloc]; omega) ?_; intro g7 c7 w7 ho7 hb7 hpl7 hg7; have HO7 := Lib.hid ho7; have HB7 := Lib.hid hb7; have HA7 := Lib.hid (HC5.out.below (below1 w5 (.cells #[.slice ra (N - 1) rc, .int .i64 (bd - ak * z)] 48))); have HW7 := Lib.hid (show w5.heap.size + 1 ≤ w7.heap.size by have := hb7.size; simpa using this); obtain ⟨⟨m0', m1'⟩, f0', f1'⟩ := (HA7.out.2.2.1.since hb7 (Nat.lt_succ_self _)).two; clear ho7 hb7 hpl7 hg7)
      refine ⟨⟨j + 1, .slice (some ⟨g7, 0, none⟩) ((slL k z (hs'.take j)).length + 1) c7, by omega, by go_num, HAl2.out, ?_⟩, by simp [RowKit.intOf]; omega⟩
      have hz := HC5.out.2.2.2.2.2.1
      have hz5 := HC5.out.2.2.2.2.2.2
      have hz7 := HW7.out
      rw [HL2.out]
      refine ⟨(HA7.out.1.since HB7.out (by omega)).other (by show w1.heap.size ≠ w.heap.size; omega) _, (HA7.out.2.1.since HB7.out (by omega)).other (by show w1.heap.size ≠ w.heap.size + 1; omega) _, (HA7.out.2.2.1.since HB7.out (by omega)).set1 _, ?_, (HA7.out.2.2.2.2.1.trans (HB7.out.mono (by omega))).setCell (by show w.heap.size ≤ w1.heap.size; omega) _, hz, by simp [World.setCell]; omega⟩
      exact (HO7.out.kept ((Kept.refl w1.heap.size (w1.heap.size + 1) w7).setCell (Nat.le_refl _) (Nat.lt_succ_self _) _) (.inr (Nat.le_refl _))).mono (Nat.le_refl _) (by simp [World.setCell])
    · have hL2 : slL k z (hs'.take (j + 1)) = slL k z (hs'.take j) := by rw [HLT.out, if_neg (by rw [HQs.out.1, HQ.out]; exact hq0), List.append_nil]
      have HL2 := Lib.hid hL2
      obtain ⟨⟨p0, p1⟩, pf0, pf1⟩ := HC5.out.2.1.two
      have hdq : decide (0 < q) = false := decide_eq_false hq0
      by_cases hbd0 : bd - ak * z < 0
      · have hok : slOk k z hs'[j] = false := by unfold slOk; rw [HQs.out.1, HQs.out.2, HQ.out, hdq, decide_eq_false (by omega)]; rfl
        have HRes := Lib.hid (slRes_f (n := N) (HNo.out hok))
        clear hL2
        go_wp2
        rw [HRes.out]
        refine bodyPost_ret (v := .tuple #[.agg #[.int .i64 0, .slice none 0 0], .bool false]) ?_ rfl ⟨⟨_, rfl, OwG.zero⟩, (HC5.out.2.2.2.2.1.setCell (by simp) _).setCell (by simp) _⟩
        simp [results, Try.results18, go_sem, p0, p1]
      · have hok : slOk k z hs'[j] = true := by unfold slOk; rw [HQs.out.1, HQs.out.2, HQ.out, decide_eq_true (show (0 : Int) ≤ bd - ak * z by omega), Bool.or_true]
        have HAl2 := Lib.hid (HT2.out hok)
        have hbd1 : (0 : Int) ≤ bd - ak * z := by omega
        clear hL2
        go_wp2
        exact ⟨⟨j + 1, _, by omega, by go_num, HAl2.out, by rw [HL2.out]; exact HC5.out⟩, by simp [RowKit.intOf]; omega⟩
end Go.Proofs.Ytmogncpkdkdodaa
