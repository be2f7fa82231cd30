/- Terms as values: how they read, those that the call made itself; what came in. -/
import Derived.Test.YtjijgagdaolkcaaMaf
import Derived.Test.YtjijgagdaolkcaaMav
import Derived.Test.YtjijgagdaolkcaaMap
import Derived.Deep.Strs
import Derived.Test.YtjijgagdaolkcaaMab
namespace Go.Proofs.Ytjijgagdaolkcaa
open Go Go.RowKit Go.Lib Go.ChangeShapes Go.WideShapes Go.Deep Go.Joins

/-- A term as a value that reads so, as three cells; one that the call made itself. -/
def Tv (w : World) (v : Value) (t : Tm) : Prop := ∃ u g, v = .agg #[.int .i64 t.1, u, g] ∧ Sl w u (intVals t.2.1) ∧ Rw w g t.2.2
theorem Tv.below {w w' : World} {v : Value} {t : Tm} (k : Tv w v t) (hb : Below w.heap.size w w') : Tv w' v t := by
  obtain ⟨u, g, e, k1, k2⟩ := k
  exact ⟨u, g, e, k1.below hb, k2.below hb⟩
def RTm (w : World) (cs : List Value) (t : Tm) : Prop := ∃ u g, cs = [.int .i64 t.1, u, g] ∧ Sl w u (intVals t.2.1) ∧ Rw w g t.2.2
theorem RTm.below {w w' : World} {cs : List Value} {t : Tm} (k : RTm w cs t) (hb : Below w.heap.size w w') : RTm w' cs t := by
  obtain ⟨u, g, e, k1, k2⟩ := k
  exact ⟨u, g, e, k1.below hb, k2.below hb⟩
def ETm (lo hi : Nat) (w : World) (cs : List Value) (t : Tm) : Prop := ∃ u g a b c d, cs = [.int .i64 t.1, u, g] ∧ OwnV 3 a b w u (intVals t.2.1) ∧ OwR 24 3 c d w g t.2.2 ∧
  (lo ≤ a ∧ a ≤ b ∧ b ≤ hi) ∧ (lo ≤ c ∧ c ≤ d ∧ d ≤ hi) ∧ (b ≤ c ∨ d ≤ a)
theorem keepsT : Keeps ETm where
  out := by
    intro lo hi p q w w' cs x h hk hd
    obtain ⟨u, g, a, b, c, d, rfl, k1, k2, k3, k4, k5⟩ := h
    exact ⟨u, g, a, b, c, d, rfl, k1.kept hk (by omega), k2.kept hk (by omega), k3, k4, k5⟩
theorem ETm.rd {lo hi : Nat} {w : World} {cs : List Value} {t : Tm} (h : ETm lo hi w cs t) : RTm w cs t := by
  obtain ⟨u, g, a, b, c, d, rfl, k1, k2, _⟩ := h
  exact ⟨u, g, rfl, k1.sl, k2.rw⟩
theorem ETm.tv {lo hi : Nat} {w : World} {z u g : Value} {t : Tm} (h : ETm lo hi w [z, u, g] t) : Tv w (.agg #[z, u, g]) t := by
  obtain ⟨u, g, a, b, c, d, e, k1, k2, _⟩ := h
  simp only [List.cons.injEq, and_true] at e
  obtain ⟨rfl, rfl, rfl⟩ := e
  exact ⟨_, _, rfl, k1.sl, k2.rw⟩
theorem ETm.mono {lo hi lo' hi' : Nat} {w : World} {cs : List Value} {t : Tm} (h : ETm lo hi w cs t) (h1 : lo' ≤ lo) (h2 : hi ≤ hi') : ETm lo' hi' w cs t := by
  obtain ⟨u, g, a, b, c, d, e, k1, k2, k3, k4, k5⟩ := h
  exact ⟨u, g, a, b, c, d, e, k1, k2, by omega, by omega, k5⟩
theorem ETm.below {lo hi : Nat} {w w' : World} {cs : List Value} {t : Tm} (h : ETm lo hi w cs t) (hb : Below w.heap.size w w') : ETm lo hi w' cs t := keepsT.below h hb
theorem ETm.kept {lo hi a b : Nat} {w w' : World} {cs : List Value} {t : Tm} (h : ETm lo hi w cs t) (hk : Kept a b w w') (hd : hi ≤ a ∨ b ≤ lo) : ETm lo hi w' cs t := keepsT.out h hk hd
theorem ETm.shape {lo hi : Nat} {w : World} {z u g : Value} {t : Tm} (h : ETm lo hi w [z, u, g] t) : ∃ (a : Option Addr) (n : Nat) (b : Option Addr) (m : Nat), u = .slice a t.2.1.length n ∧ g = .slice b t.2.2.length m := by
  obtain ⟨u, g, a, b, c, d, e, k1, k2, _⟩ := h
  simp only [List.cons.injEq, and_true] at e
  obtain ⟨_, rfl, rfl⟩ := e
  obtain ⟨a, n, e, _⟩ := k1.shape1
  obtain ⟨b, m, e2, _⟩ := k2.rw.shape
  rw [intVals_len] at e
  exact ⟨a, n, b, m, e, e2⟩
theorem ETm.zero {lo : Nat} {w : World} : ETm lo lo w [.int .i64 0, .slice none 0 0, .slice none 0 0] (0, [], []) :=
  ⟨_, _, lo, lo, lo, lo, rfl, OwnV.nil, OwR.nil, by omega, by omega, .inl (Nat.le_refl _)⟩
abbrev Tms (w : World) (v : Value) (ts : List Tm) : Prop := RdL RTm 3 w v ts
theorem Tms.since {w w' : World} {v : Value} {ts : List Tm} (h : Tms w v ts) (hb : Below w.heap.size w w') : Tms w' v ts := by
  obtain ⟨a, c, rfl, hm, hx⟩ := h
  refine ⟨a, c, rfl, hm, fun i hi => ?_⟩
  obtain ⟨b, off, cs, h1, h2, h3, h4, h5, h6⟩ := hx i hi
  exact ⟨b, off, cs, h1, h2, Nat.lt_of_lt_of_le h3 hb.size, h4, fun q hq => (hb.cell (p := ⟨b, off + (i * 3 + q), none⟩) h3).trans (h5 q hq), h6.below hb⟩
/-- Term i. -/
theorem Tms.term {W : World} {v : Value} {l : List Tm} (h : Tms W v l) (i : Nat) (hi : i < l.length) {a : Option Addr} {n c : Nat} (hv : v = .slice a n c) :
    ∃ (b off : Nat) (u g : Value), a = some ⟨b, off, none⟩ ∧ l.length ≤ c ∧ b < W.heap.size ∧ W.cell? ⟨b, off + i * 3, none⟩ = some (.int .i64 l[i].1) ∧ W.cell? ⟨b, off + i * 3 + 1, none⟩ = some u ∧ W.cell? ⟨b, off + i * 3 + 2, none⟩ = some g ∧ Sl W u (intVals l[i].2.1) ∧ Rw W g l[i].2.2 := by
  obtain ⟨b, off, cs, h1, h2, h3, h4, h5, u, g, rfl, h6, h7⟩ := h.at i hi hv
  exact ⟨b, off, u, g, h1, h2, h3, h5 0 (by omega), h5 1 (by omega), h5 2 (by omega), h6, h7⟩
abbrev OwT (lo hi : Nat) (w : World) (v : Value) (ts : List Tm) : Prop := OwL ETm 3 49 lo hi w v ts
theorem OwT.tms {lo hi : Nat} {w : World} {v : Value} {ts : List Tm} (h : OwT lo hi w v ts) : Tms w v ts := OwL.rd (fun _ _ _ _ h => h.rd) h
/-- What a function that makes terms of its own leaves. -/
def MadeT (w : World) (t : Tm) (e : Ending) (w' : World) : Prop := (∃ v, e = .returned v ∧ ∃ u g, v = .agg #[.int .i64 t.1, u, g] ∧ ETm w.heap.size w'.heap.size w' [.int .i64 t.1, u, g] t) ∧ Below w.heap.size w w'
def MadeTs (w : World) (ts : List Tm) (e : Ending) (w' : World) : Prop := (∃ v, e = .returned v ∧ OwT w.heap.size w'.heap.size w' v ts) ∧ Below w.heap.size w w'
def GotTs (w : World) (r : List Tm × Bool) (e : Ending) (w' : World) : Prop := (∃ v, e = .returned (.tuple #[v, .bool r.2]) ∧ OwT w.heap.size w'.heap.size w' v r.1) ∧ Below w.heap.size w w'
theorem info_term : (Try.prog.info? 49).map (fun i => (i.zero, i.size, i.bytes)) = some (some (.agg #[.int .i64 0, .slice none 0 0, .slice none 0 0]), 3, 56) := by kernel_rfl

/-- A block of three cells. -/
theorem Bk.tri {w : World} {b : Nat} {x y z : Value} {T : TypeId} (h : Bk w b #[x, y, z] T) : (w.cell? ⟨b, 0, none⟩ = some x ∧ w.cell? ⟨b, 1, none⟩ = some y ∧ w.cell? ⟨b, 2, none⟩ = some z) ∧ w.frozen? ⟨b, 0, none⟩ = false ∧ w.frozen? ⟨b, 1, none⟩ = false ∧ w.frozen? ⟨b, 2, none⟩ = false :=
  ⟨⟨h.cell 0 rfl, h.cell 1 rfl, h.cell 2 rfl⟩, h.free 0, h.free 1, h.free 2⟩
theorem Bk.tri1 {w : World} {b : Nat} {x y z : Value} {T : TypeId} (h : Bk w b #[x, y, z] T) (u : Value) : Bk (w.setCell ⟨b, 1, none⟩ u) b #[x, u, z] T := h.set 1 u (by simp)
theorem Bk.tri2 {w : World} {b : Nat} {x y z : Value} {T : TypeId} (h : Bk w b #[x, y, z] T) (u : Value) : Bk (w.setCell ⟨b, 2, none⟩ u) b #[x, y, u] T := h.set 2 u (by simp)

section
variable {H : Type} {enc : TypeId × Value → H} {P : Program}
theorem rw_of_trod {W : World} {base : Nat} {sp : Nat → Bool} {held : Bool} {t e q : TypeId} {fuel : Nat} {v : Value} {x : DataW H × List MemPlace}
    (ht : P.underlying t = some (.slice e)) (he : P.underlying e = some (.slice q)) (hq : P.underlying q = some (.int .i64)) (ce : P.cellsOf e = 1) (cq : P.cellsOf q = 1)
    (h : DataW.trod enc P W base sp held fuel t [v] = some x) : ∃ zss : List (List Int), Rw W v zss := by
  rcases open_slice1 ht ce h with ⟨hcs, _⟩ | ⟨a', len', cap', m, n, V, D, Pl, hcs, _⟩
  · simp only [List.cons.injEq, and_true] at hcs
    subst hcs
    obtain ⟨zss, _, h2, _⟩ := rows_came ht he hq ce cq h
    exact ⟨zss, h2⟩
  · simp only [List.cons.injEq, and_true] at hcs
    subst hcs
    obtain ⟨zss, _, h2, _⟩ := rows_came ht he hq ce cq h
    exact ⟨zss, h2⟩
theorem tv_came {W : World} {base b0 : Nat} {r : Reach} {sp : Nat → Bool} {held : Bool} {R T e q : TypeId} {f0 f1 f2 : Field} {v : Value} {d : DataW H} {p : List MemPlace}
    (hR : P.underlying R = some (.struct #[f0, f1, f2])) (hone : oneCellFields P #[f0, f1, f2] = true) (hC : P.cellsOf R = 3)
    (h0 : P.underlying f0.type = some (.int .i64)) (h1 : P.underlying f1.type = some (.slice q)) (hq : P.underlying q = some (.int .i64)) (cq : P.cellsOf q = 1)
    (h2 : P.underlying f2.type = some (.slice e)) (he : P.underlying e = some (.slice T)) (hT : P.underlying T = some (.int .i64)) (ce : P.cellsOf e = 1) (cT : P.cellsOf T = 1)
    (hv : Value.okWide P W r b0 R v) (h : DataW.Trod enc P W base sp held R v d p) : ∃ z : Tm, True ∧ Tv W v z ∧ (Lit.int .i64 z.1).wf = true := by
  obtain ⟨v0, v1, v2, y0, y1, y2, n, rfl, _, _, k0, k1, k2⟩ := open_agg3 hR hone hC hv h
  obtain ⟨z, e1, _, hw⟩ := DataW.trod_int h0 k0
  simp only [List.cons.injEq, and_true] at e1
  obtain ⟨zs, k3, _⟩ := sl_of_trod h1 hq cq k1
  obtain ⟨zss, k4⟩ := rw_of_trod h2 he hT ce cT k2
  exact ⟨(z, zs, zss), trivial, ⟨v1, v2, by rw [e1], k3, k4⟩, hw⟩
theorem tms_came {W : World} {base : Nat} {sp : Nat → Bool} {held : Bool} {t R T e q : TypeId} {f0 f1 f2 : Field} {fuel : Nat} {v : Value} {x : DataW H × List MemPlace}
    (ht : P.underlying t = some (.slice R)) (hR : P.underlying R = some (.struct #[f0, f1, f2])) (hC : P.cellsOf R = 3) (o0 : f0.offset = 0) (o1 : f1.offset = 1) (o2 : f2.offset = 2) (c0 : P.cellsOf f0.type = 1) (c1 : P.cellsOf f1.type = 1) (c2 : P.cellsOf f2.type = 1)
    (h0 : P.underlying f0.type = some (.int .i64)) (h1 : P.underlying f1.type = some (.slice q)) (hq : P.underlying q = some (.int .i64)) (cq : P.cellsOf q = 1)
    (h2 : P.underlying f2.type = some (.slice e)) (he : P.underlying e = some (.slice T)) (hT : P.underlying T = some (.int .i64)) (ce : P.cellsOf e = 1) (cT : P.cellsOf T = 1)
    (h : DataW.trod enc P W base sp held fuel t [v] = some x) : ∃ ts : List Tm, Tms W v ts ∧ ∀ z ∈ ts, (Lit.int .i64 z.1).wf = true := by
  refine rdl_came (Q := fun z : Tm => (Lit.int .i64 z.1).wf = true) (by omega) ht hC h fun n cs y hl hy => ?_
  obtain ⟨y0, y1, y2, n, _, _, k0, k1, k2⟩ := trod_struct3 hR hy
  match cs, hl with
  | [v0, v1, v2], _ =>
    simp only [o0, o1, o2, c0, c1, c2, List.drop_zero, List.drop_succ_cons, List.take_succ_cons, List.take_zero] at k0 k1 k2
    obtain ⟨z, e1, _, hw⟩ := DataW.trod_int h0 k0
    simp only [List.cons.injEq, and_true] at e1
    obtain ⟨zs, k3, _⟩ := sl_of_trod h1 hq cq k1
    obtain ⟨zss, k4⟩ := rw_of_trod h2 he hT ce cT k2
    exact ⟨(z, zs, zss), ⟨v1, v2, by rw [e1], k3, k4⟩, hw⟩
end
end Go.Proofs.Ytjijgagdaolkcaa
/- Copies of terms. -/
namespace Go.Proofs.Ytjijgagdaolkcaa
open Go Go.RowKit Go.Lib

set_option maxRecDepth 100000 in
set_option maxHeartbeats 800000 in
theorem to_term (t : Tm) (v : Value) (w : World) (hv : Tv w v t) (hl : t.2.1.length ≤ 1048576 ∧ t.2.2.length ≤ 1048576) (hr : ∀ (i : Nat) zs, t.2.2[i]? = some zs → zs.length ≤ 1048576) :
    Calls Try.prog 47 #[v] w (MadeT w t) := by
  obtain ⟨u, g, rfl, hs, ht⟩ := hv
  have HS := Lib.hid hs
  have HT := Lib.hid ht
  have HR := Lib.hid hr
  have K := Lib.hid (Bk.three w #[.int .i64 t.1, u, g] #[.int .i64 0, .slice none 0 0, .slice none 0 0] #[.int .i64 t.1, .slice none 0 0, .slice none 0 0] 59 49 49)
  have B0 := Lib.hid (below3 w (.cells #[.int .i64 t.1, u, g] 59) (.cells #[.int .i64 0, .slice none 0 0, .slice none 0 0] 49) (.cells #[.int .i64 t.1, .slice none 0 0, .slice none 0 0] 49))
  clear hs ht hr
  go_enter Try.func47, Try.ntmps47
  go_wp2_with fail
  refine (to_int t.2.1 u _ (HS.out.below B0.out) hl.1).mono ?_
  rintro e w1 ⟨⟨r, rfl, ho⟩, hb⟩
  have ho := OwnV.of_owns ho
  have HO := Lib.hid ho
  have K1 := Lib.hid (K.out.1.below hb)
  have K2 := Lib.hid (K.out.2.1.below hb)
  have K3 := Lib.hid (K.out.2.2.below hb)
  have S1 := Lib.hid hb.size
  obtain ⟨⟨b0, b1, b2⟩, f0, f1, f2⟩ := K3.out.tri
  have B1 := Lib.hid (B0.out.trans (hb.mono B0.out.size))
  obtain ⟨ra, rc, rfl, _⟩ := ho.shape1
  clear hb ho
  have B2 := Lib.hid (B1.out.setCell (p := ⟨w.heap.size + 1 + 1, 1, none⟩) (by simp; omega) (.slice ra (intVals t.2.1).length rc))
  have K1b := Lib.hid (K1.out.other (p := ⟨w.heap.size + 1 + 1, 1, none⟩) (by simp; omega) (.slice ra (intVals t.2.1).length rc))
  have K2b := Lib.hid (K2.out.other (p := ⟨w.heap.size + 1 + 1, 1, none⟩) (by simp) (.slice ra (intVals t.2.1).length rc))
  have K3b := Lib.hid (K3.out.tri1 (.slice ra (intVals t.2.1).length rc))
  have HOb := Lib.hid (HO.out.kept ((Kept.refl w.heap.size (w.heap.size + 3) w1).setCell (p := ⟨w.heap.size + 1 + 1, 1, none⟩) (by simp; omega) (by simp) (.slice ra (intVals t.2.1).length rc)) (.inr (by simp)))
  obtain ⟨⟨e0, e1, e2⟩, _⟩ := K1b.out.tri
  go_wp2_with fail
  refine (to_rows t.2.2 g _ (HT.out.below B2.out) hl.2 HR.out).mono ?_
  rintro e w2 ⟨⟨r2, rfl, ho2⟩, hb2⟩
  have HO2 := Lib.hid ho2
  have HO3 := Lib.hid (HOb.out.below hb2)
  have S2 := Lib.hid hb2.size
  obtain ⟨⟨c0, c1, c2⟩, g0, g1, g2⟩ := (K3b.out.below hb2).tri
  obtain ⟨⟨d0, d1, d2⟩, h0, h1, h2⟩ := (K2b.out.below hb2).tri
  have B3 := Lib.hid (B2.out.trans (hb2.mono B2.out.size))
  obtain ⟨ra2, rc2, rfl, _⟩ := ho2.rw.shape
  clear hb2 ho2 b0 b1 b2 f0 f1 f2 e0 e1 e2
  go_wp2
  refine bodyPost_ret (v := .agg #[.int .i64 t.1, .slice ra (intVals t.2.1).length rc, .slice ra2 t.2.2.length rc2]) ?_ rfl ⟨⟨_, rfl, _, _, rfl, ?_⟩, (((B3.out.setCell (by simp; omega) _).setCell (by simp) _).setCell (by simp) _).setCell (by simp) _⟩
  · simp [results, Try.results47, go_sem, d0, d1, d2]
  · have hkk := ((((Kept.refl w.heap.size (w.heap.size + 3) w2).setCell (p := ⟨w.heap.size + 1 + 1, 2, none⟩) (by simp; omega) (by simp) (.slice ra2 t.2.2.length rc2)).setCell (p := ⟨w.heap.size + 1, 0, none⟩) (by simp) (by simp) (.int .i64 t.1)).setCell (p := ⟨w.heap.size + 1, 1, none⟩) (by simp) (by simp) (.slice ra (intVals t.2.1).length rc)).setCell (p := ⟨w.heap.size + 1, 2, none⟩) (by simp) (by simp) (.slice ra2 t.2.2.length rc2)
    have s1 := S1.out
    have s2 := S2.out
    simp [World.setCell] at s1 s2
    refine ⟨_, _, w.heap.size + 3, w1.heap.size, w1.heap.size, w2.heap.size, rfl, ((HO3.out.kept hkk (.inr (by simp))).mono (by simp) (by simp [World.setCell])), ((HO2.out.kept hkk (.inr (by simp [World.setCell]; omega))).mono (by simp [World.setCell]) (by simp [World.setCell])), by simp [World.setCell]; omega, by simp [World.setCell]; omega, .inl (Nat.le_refl _)⟩

def filledT (ts : List Tm) (k : Nat) : List Tm := ts.take k ++ List.replicate (ts.length - k) (0, [], [])
theorem filledT_len (ts : List Tm) (k : Nat) (h : k ≤ ts.length) : (filledT ts k).length = ts.length := by simp [filledT]; omega
theorem filledT_all (ts : List Tm) : filledT ts ts.length = ts := by simp [filledT]
theorem filledT_zero (ts : List Tm) : filledT ts 0 = List.replicate ts.length (0, [], []) := by simp [filledT]
theorem filledT_step (ts : List Tm) (k : Nat) (h : k < ts.length) : (filledT ts k).set k ts[k] = filledT ts (k + 1) := by
  unfold filledT
  rw [List.set_append_right _ _ (by rw [List.length_take]; omega), List.length_take, Nat.min_eq_left (by omega), Nat.sub_self]
  rw [show ts.length - k = (ts.length - (k + 1)) + 1 from by omega, List.replicate_succ, List.set_cons_zero, List.take_succ_eq_append_getElem h, List.append_assoc]
  rfl
/-- A term made just now is stored at place j. -/
theorem OwT.store3 {lo hi m g n c : Nat} {w w1 : World} {l : List Tm} (h : OwT lo m w (.slice (some ⟨g, 0, none⟩) n c) l) (hb : Below w.heap.size w w1) (hm : m ≤ w.heap.size) (hlo : lo ≤ w.heap.size) (hhi : w1.heap.size ≤ hi)
    {j : Nat} (hj : j < l.length) {z u y : Value} {x : Tm} (hx : ETm w.heap.size w1.heap.size w1 [z, u, y] x) :
    OwT lo hi (((w1.setCell ⟨g, j * 3, none⟩ z).setCell ⟨g, j * 3 + 1, none⟩ u).setCell ⟨g, j * 3 + 2, none⟩ y) (.slice (some ⟨g, 0, none⟩) n c) (l.set j x) := by
  obtain ⟨fs, A, B, h⟩ := h
  obtain ⟨a, c', e1, _⟩ := owns_slice h.own
  simp only [Value.slice.injEq] at e1
  obtain ⟨_, rfl, _⟩ := e1
  have hl := h.len
  have hW : Kept g (g + 1) w1 (((w1.setCell ⟨g, j * 3, none⟩ z).setCell ⟨g, j * 3 + 1, none⟩ u).setCell ⟨g, j * 3 + 2, none⟩ y) :=
    (((Kept.refl g (g + 1) w1).setCell (p := ⟨g, j * 3, none⟩) (Nat.le_refl _) (Nat.lt_succ_self _) z).setCell (p := ⟨g, j * 3 + 1, none⟩) (Nat.le_refl _) (Nat.lt_succ_self _) u).setCell (p := ⟨g, j * 3 + 2, none⟩) (Nat.le_refl _) (Nat.lt_succ_self _) y
  refine ⟨_, _, _, OwLx.store (q := l.length) (fs' := ((fs.set (j * 3 + 0) z).set (j * 3 + 1) u).set (j * 3 + 2) y) keepsT h hb hm hlo hhi hj hx hW rfl (fun k2 => (((k2.stored (j * 3) z).1).stored (j * 3 + 1) u).1.stored (j * 3 + 2) y |>.1) (by simp [World.setCell]) ?_ ?_⟩
  · rw [chunk_at (n := l.length) y (by omega) (by rw [List.length_set, List.length_set, hl]) hj, chunk_at (n := l.length) u (by omega) (by rw [List.length_set, hl]) hj, chunk_at (n := l.length) z (by omega) hl hj]
    have h3 := chunk_len hl hj
    match chunk 3 fs j, h3 with
    | [p, q, r], _ => rfl
  · intro i hi
    rw [chunk_far _ _ (by omega) hi, chunk_far _ _ (by omega) hi, chunk_far _ _ (by omega) hi]
/-- The cells of term j. -/
theorem OwT.at3 {lo hi : Nat} {w : World} {v : Value} {l : List Tm} (h : OwT lo hi w v l) (j : Nat) (hj : j < l.length) {a : Option Addr} {n c : Nat} (hv : v = .slice a n c) :
    ∃ (b : Nat) (u g : Value), a = some ⟨b, 0, none⟩ ∧ lo ≤ b ∧ b < hi ∧ b < w.heap.size ∧ (w.cell? ⟨b, j * 3, none⟩ = some (.int .i64 l[j].1) ∧ w.cell? ⟨b, j * 3 + 1, none⟩ = some u ∧ w.cell? ⟨b, j * 3 + 2, none⟩ = some g) ∧ ∀ i, w.frozen? ⟨b, i, none⟩ = false := by
  obtain ⟨fs, A, B, h⟩ := h
  obtain ⟨b, h1, h2, h3, h4, h5, h6, _, h7, h8⟩ := h.at j hj hv
  obtain ⟨u, g, _, _, _, _, e, _⟩ := (h.elem j hj).2.2.2.2
  rw [e] at h7
  exact ⟨b, u, g, h1, h3, h4, h5, ⟨h7 0 (by omega), h7 1 (by omega), h7 2 (by omega)⟩, h8⟩

set_option maxRecDepth 100000 in
set_option maxHeartbeats 800000 in
theorem to_terms (ts : List Tm) (v : Value) (w : World) (hv : Tms w v ts) (hl : ts.length + totT ts ≤ 1048576) :
    Calls Try.prog 52 #[v] w (MadeTs w ts) := by
  have HV := Lib.hid hv
  have HL := Lib.hid hl
  obtain ⟨a, c, rfl, hm⟩ := hv.shape
  unfold maxLen at hm
  obtain ⟨i0, hi, hz0, hz1, hz2⟩ := info_parts info_term
  have hl0 : ts.length ≤ 1048576 := by omega
  clear hv hl
  go_enter Try.func52, Try.ntmps52
  go_wp2_with (at_make; refine wpList_make_full _ rfl _ _ 45 rfl w.heap.size 49 i0 _ 3 Try.underlying45 hi hz0 hz1 .i64 .i64 _ _ ts.length rfl rfl rfl rfl (by rw [hz2]; omega) (by unfold maxLen; omega) (Nat.le_refl _) ?_; intro w1 hown hgrow)
  have hbel : Below w.heap.size w w1 := (Below.refl _ _).grown hgrow (Nat.le_refl _) (fun _ h => by cases h)
  have hsz1 : w.heap.size < w1.heap.size := (hown.lt _ rfl).2
  rw [show (Value.agg #[.int .i64 0, .slice none 0 0, .slice none 0 0]).cells = #[Value.int .i64 0, .slice none 0 0, .slice none 0 0] from rfl] at hown
  have HW := Lib.hid (show OwT w.heap.size w1.heap.size w1 (.slice (some ⟨w.heap.size, 0, none⟩) ts.length ts.length) (filledT ts 0) by rw [filledT_zero]; exact OwL.zeros rfl hown (Nat.le_refl _) hsz1 ETm.zero)
  have HB := Lib.hid hbel
  clear hown hgrow hbel hi hz0 hz1 hz2
  go_loopw [4] (fun i wr => ∃ k : Nat, k ≤ ts.length ∧ i = .int .i64 k ∧ OwT w.heap.size wr.heap.size wr (.slice (some ⟨w.heap.size, 0, none⟩) ts.length ts.length) (filledT ts k) ∧ w.heap.size < wr.heap.size ∧ Below w.heap.size w wr) (fun i _ => ts.length - (intOf i).toNat)
  case atStart => exact ⟨0, Nat.zero_le _, rfl, HW.out, hsz1, HB.out⟩
  case round =>
    obtain ⟨k, hk, rfl, hrt, hszr, hbr⟩ := hrel
    by_cases hlt : k < ts.length
    · obtain ⟨b, off, u, g, rfl, hcc, hb2, hcell, hcell1, hcell2, hsl, hrw⟩ := HV.out.term k hlt rfl
      rw [← hbr.cell (p := ⟨b, off + k * 3, none⟩) hb2] at hcell
      rw [← hbr.cell (p := ⟨b, off + k * 3 + 1, none⟩) hb2] at hcell1
      rw [← hbr.cell (p := ⟨b, off + k * 3 + 2, none⟩) hb2] at hcell2
      have HS := Lib.hid (show Tv _ (.agg #[.int .i64 ts[k].1, u, g]) ts[k] from ⟨u, g, rfl, hsl.below hbr, hrw.below hbr⟩)
      have hle := term_le_totT hlt
      have L1 := Lib.hid (show ts[k].2.1.length ≤ 1048576 ∧ ts[k].2.2.length ≤ 1048576 by have := HL.out; omega)
      have L2 := Lib.hid (show ∀ (i : Nat) zs, ts[k].2.2[i]? = some zs → zs.length ≤ 1048576 from fun i zs hz => by have h1 := lt_of_get hz; have h2 := row_le_tot h1; rw [List.getElem?_eq_getElem h1] at hz; obtain rfl := Option.some.inj hz; have := HL.out; omega)
      have HT := Lib.hid hrt
      have HBr := Lib.hid hbr
      clear hrt hbr hsl hrw hle
      go_wp2_with fail
      refine (to_term ts[k] _ _ HS.out L1.out L2.out).mono ?_
      rintro e w1 ⟨⟨r, rfl, x, y, rfl, ho⟩, hb1⟩
      have hfl := Lib.hid (filledT_len ts k hk)
      have hstep := HT.out.store3 hb1 (Nat.le_refl _) (Nat.le_of_lt hszr) (Nat.le_refl _) (j := k) (by rw [hfl.out]; exact hlt) ho
      rw [filledT_step ts k hlt] at hstep
      obtain ⟨b', u', g', e1, _, _, _, ⟨m0, m1, m2⟩, fr⟩ := OwT.at3 (OwL.below keepsT HT.out hb1) k (by rw [hfl.out]; exact hlt) rfl
      simp only [Option.some.injEq, Addr.mk.injEq, and_true] at e1
      subst e1
      have fr0 := fr (k * 3)
      have fr1 := fr (k * 3 + 1)
      have fr2 := fr (k * 3 + 2)
      obtain ⟨ra, rc, rb, rd, rfl, rfl⟩ := ho.shape
      have HT1 := Lib.hid hstep
      have HB1 := Lib.hid (HBr.out.trans (hb1.mono HBr.out.size))
      have hsz2 : w.heap.size < w1.heap.size := Nat.lt_of_lt_of_le hszr hb1.size
      clear ho hb1 hstep fr
      go_wp2
      exact ⟨⟨k + 1, by omega, by go_num, by simpa [World.setCell] using HT1.out, by simpa [World.setCell] using hsz2, ((HB1.out.setCell (Nat.le_refl _) _).setCell (Nat.le_refl _) _).setCell (Nat.le_refl _) _⟩, by simp [intOf]; omega⟩
    · obtain rfl : k = ts.length := by omega
      have HT := Lib.hid hrt
      have HBr := Lib.hid hbr
      clear hrt hbr
      go_wp2
      go_ret
      have h2 := HT.out
      rw [filledT_all] at h2
      exact ⟨⟨_, rfl, h2⟩, HBr.out⟩
end Go.Proofs.Ytjijgagdaolkcaa
/- The measure of terms, and whether two read alike. -/
namespace Go.Proofs.Ytjijgagdaolkcaa
open Go Go.RowKit Go.Lib

def szTm (t : Tm) (left : Int) : Int := if left < t.2.1.length + (t.2.2.length + tot t.2.2 : Nat) then -1 else left - t.2.1.length - (t.2.2.length + tot t.2.2 : Nat)
theorem szTm_small {t : Tm} {left : Int} (h : left < t.2.1.length + (t.2.2.length + tot t.2.2 : Nat)) : szTm t left = -1 := if_pos h
theorem szTm_fits {t : Tm} {left : Int} (h : ¬ left < t.2.1.length + (t.2.2.length + tot t.2.2 : Nat)) : szTm t left = left - t.2.1.length - (t.2.2.length + tot t.2.2 : Nat) := if_neg h

set_option maxRecDepth 100000 in
set_option maxHeartbeats 800000 in
theorem sz_term (t : Tm) (v : Value) (left : Int) (w : World) (hv : Tv w v t) (h1 : 0 ≤ left) (h2 : left ≤ 1048576) :
    Calls Try.prog 46 #[v, .int .i64 left] w (Quiet w (.int .i64 (szTm t left))) := by
  obtain ⟨u, g, rfl, hs, ht⟩ := hv
  have HS := Lib.hid hs
  have HT := Lib.hid ht
  have B0 := Lib.hid (below1 w (.cells #[.int .i64 t.1, u, g] 59))
  have K := Lib.hid (Bk.new w #[.int .i64 t.1, u, g] 59)
  obtain ⟨⟨k0, k1, k2⟩, _⟩ := K.out.tri
  clear hs ht
  by_cases hf : left < t.2.1.length
  · have E := Lib.hid (szI_small hf)
    have E2 := Lib.hid (szTm_small (t := t) (left := left) (by omega))
    clear hf
    go_enter Try.func46, Try.ntmps46
    go_wp2_with fail
    refine (sz_int t.2.1 u left _ (HS.out.below B0.out) (by omega) h2).mono ?_
    rintro e w1 ⟨rfl, rfl⟩
    rw [E.out]
    go_wp2_with fail
    go_ret
    exact ⟨ret_int E2.out.symm, B0.out⟩
  · have E := Lib.hid (szI_fits hf)
    have h5 : ¬ left - t.2.1.length < 0 := by omega
    obtain ⟨l, hl⟩ : ∃ l, left - (t.2.1.length : Int) = l := ⟨_, rfl⟩
    rw [hl] at E h5
    have l0 : 0 ≤ l := by omega
    have l1 : l ≤ 1048576 := by omega
    clear hf
    by_cases hg : l < t.2.2.length + tot t.2.2
    · have E1 := Lib.hid (szR_small hg)
      have E2 := Lib.hid (szTm_small (t := t) (left := left) (by omega))
      clear hg hl
      go_enter Try.func46, Try.ntmps46
      go_wp2_with fail
      refine (sz_int t.2.1 u left _ (HS.out.below B0.out) (by omega) h2).mono ?_
      rintro e w1 ⟨rfl, rfl⟩
      rw [E.out]
      go_wp2_with fail
      refine (sz_rows t.2.2 g l _ (HT.out.below B0.out) l0 l1).mono ?_
      rintro e w2 ⟨rfl, hb2⟩
      rw [E1.out]
      have B1 := Lib.hid (B0.out.trans (hb2.mono B0.out.size))
      clear hb2
      go_wp2_with fail
      go_ret
      exact ⟨ret_int E2.out.symm, B1.out⟩
    · have E1 := Lib.hid (szR_fits hg)
      have E2 := Lib.hid (show l - t.2.2.length - tot t.2.2 = szTm t left by rw [szTm_fits (by omega)]; omega)
      have h6 : ¬ l - t.2.2.length - tot t.2.2 < 0 := by omega
      clear hg hl
      go_enter Try.func46, Try.ntmps46
      go_wp2_with fail
      refine (sz_int t.2.1 u left _ (HS.out.below B0.out) (by omega) h2).mono ?_
      rintro e w1 ⟨rfl, rfl⟩
      rw [E.out]
      go_wp2_with fail
      refine (sz_rows t.2.2 g l _ (HT.out.below B0.out) l0 l1).mono ?_
      rintro e w2 ⟨rfl, hb2⟩
      rw [E1.out]
      have B1 := Lib.hid (B0.out.trans (hb2.mono B0.out.size))
      clear hb2
      go_wp2_with fail
      go_ret
      exact ⟨ret_int E2.out, B1.out⟩

set_option maxRecDepth 100000 in
set_option maxHeartbeats 800000 in
theorem sz_terms (ts : List Tm) (v : Value) (left : Int) (w : World) (hv : Tms w v ts) (h1 : 0 ≤ left) (h2 : left ≤ 1048576) :
    Calls Try.prog 51 #[v, .int .i64 left] w (Quiet w (.int .i64 (szTs ts left))) := by
  have HV := Lib.hid hv
  obtain ⟨a, c, rfl, hm⟩ := hv.shape
  unfold maxLen at hm
  clear hv
  by_cases h : left < ts.length
  · have e := Lib.hid (szTs_small (ts := ts) (left := left) (by omega))
    have h3 : left - ts.length < 0 := by omega
    go_enter Try.func51, Try.ntmps51
    go_wp2
    go_ret
    exact ⟨ret_int e.out.symm, Below.refl _ _⟩
  · have h3 : ¬ left - ts.length < 0 := by omega
    go_enter Try.func51, Try.ntmps51
    go_wp2
    go_loopw [1, 5] (fun q i wr => ∃ (k : Nat) (l : Int), k ≤ ts.length ∧ i = .int .i64 k ∧ q = .int .i64 l ∧ l = left - ts.length - totT (ts.take k) ∧ 0 ≤ l ∧ Below w.heap.size w wr) (fun _ i _ => ts.length - (RowKit.intOf i).toNat)
    case atStart => exact ⟨0, _, Nat.zero_le _, rfl, rfl, by simp [totT], by omega, Below.refl _ _⟩
    case round =>
      obtain ⟨k, l, hk, rfl, rfl, hl, hl0, hbr⟩ := hrel
      have HL := Lib.hid hl
      have hl2 : l ≤ 1048576 := by omega
      clear hl
      have HB := Lib.hid hbr
      by_cases hlt : k < ts.length
      · obtain ⟨b, off, u, g, rfl, hcc, hb2, hcell, hcell1, hcell2, hsl, hrw⟩ := HV.out.term k hlt rfl
        rw [← hbr.cell (p := ⟨b, off + k * 3, none⟩) hb2] at hcell
        rw [← hbr.cell (p := ⟨b, off + k * 3 + 1, none⟩) hb2] at hcell1
        rw [← hbr.cell (p := ⟨b, off + k * 3 + 2, none⟩) hb2] at hcell2
        have HS := Lib.hid (show Tv _ (.agg #[.int .i64 ts[k].1, u, g]) ts[k] from ⟨u, g, rfl, hsl.below hbr, hrw.below hbr⟩)
        have TT := Lib.hid (totT_take hlt)
        clear hsl hrw hbr
        by_cases hfit : l < ts[k].2.1.length + (ts[k].2.2.length + tot ts[k].2.2 : Nat)
        · have E := Lib.hid (szTm_small hfit)
          have ER := Lib.hid (szTs_small (ts := ts) (left := left) (by have h5 := totT_take_le ts (k + 1); rw [TT.out] at h5; have := HL.out; omega))
          go_wp2_with fail
          refine (sz_term ts[k] _ l _ HS.out hl0 hl2).mono ?_
          rintro e w1 ⟨rfl, hb1⟩
          rw [E.out]
          have HB1 := Lib.hid (HB.out.trans (hb1.mono HB.out.size))
          go_wp2_with fail
          go_ret
          exact ⟨ret_int ER.out.symm, HB1.out⟩
        · have E := Lib.hid (szTm_fits hfit)
          obtain ⟨l', hl'⟩ : ∃ l' : Int, l - ts[k].2.1.length - (ts[k].2.2.length + tot ts[k].2.2 : Nat) = l' := ⟨_, rfl⟩
          rw [hl'] at E
          have h5 : ¬ l' < 0 := by omega
          have HL' := Lib.hid hl'
          clear hl'
          go_wp2_with fail
          refine (sz_term ts[k] _ l _ HS.out hl0 hl2).mono ?_
          rintro e w1 ⟨rfl, hb1⟩
          rw [E.out]
          have HB1 := Lib.hid (HB.out.trans (hb1.mono HB.out.size))
          go_wp2_with fail
          exact ⟨⟨k + 1, _, by omega, by go_num, rfl, by rw [TT.out]; have := HL.out; have := HL'.out; omega, by omega, HB1.out⟩, by simp [RowKit.intOf]; omega⟩
      · obtain rfl : k = ts.length := by omega
        have ER := Lib.hid (show l = szTs ts left by have h6 := HL.out; rw [List.take_length] at h6; rw [szTs_fits (by omega), h6])
        clear hbr
        go_wp2
        go_ret
        exact ⟨ret_int ER.out, HB.out⟩

set_option maxRecDepth 100000 in
set_option maxHeartbeats 800000 in
theorem eq_term (t : Tm) (v u : Value) (w : World) (hv : Tv w v t) (hu : Tv w u t) :
    Calls Try.prog 48 #[v, u] w (Quiet w (.bool true)) := by
  obtain ⟨x, x', rfl, hx, hx'⟩ := hv
  obtain ⟨y, y', rfl, hy, hy'⟩ := hu
  have HX := Lib.hid (And.intro hx hx')
  have HY := Lib.hid (And.intro hy hy')
  have B0 := Lib.hid (below2 w (.cells #[.int .i64 t.1, x, x'] 49) (.cells #[.int .i64 t.1, y, y'] 49))
  have K := Lib.hid (Bk.pair w #[.int .i64 t.1, x, x'] #[.int .i64 t.1, y, y'] 49 49)
  clear hx hy hx' hy'
  obtain ⟨⟨a0, a1, a2⟩, _⟩ := K.out.1.tri
  obtain ⟨⟨b0, b1, b2⟩, _⟩ := K.out.2.tri
  go_enter Try.func48, Try.ntmps48
  go_wp2_with fail
  refine (eq_int t.2.1 x y _ (HX.out.1.below B0.out) (HY.out.1.below B0.out)).mono ?_
  rintro e w1 ⟨rfl, hb⟩
  have B1 := Lib.hid (B0.out.trans (hb.mono B0.out.size))
  clear a0 a1 a2 b0 b1 b2
  obtain ⟨⟨a0, a1, a2⟩, _⟩ := (K.out.1.below hb).tri
  obtain ⟨⟨b0, b1, b2⟩, _⟩ := (K.out.2.below hb).tri
  clear hb
  go_wp2_with fail
  refine (eq_rows t.2.2 x' y' _ (HX.out.2.below B1.out) (HY.out.2.below B1.out)).mono ?_
  rintro e w2 ⟨rfl, hb⟩
  have B2 := Lib.hid (B1.out.trans (hb.mono B1.out.size))
  clear hb a0 a1 a2 b0 b1 b2
  go_wp2_with fail
  go_ret
  exact ⟨rfl, B2.out⟩

theorem keepF6 {w W : World} {p q r s m n : Addr} {x y z t x' y' : Value} (h1 : W.cell? p = some x) (h2 : W.cell? q = some y) (h4 : W.cell? r = some z) (h5 : W.cell? s = some t) (h6 : W.cell? m = some x') (h7 : W.cell? n = some y') (h3 : Below w.heap.size w W) :
    W.drew.cell? p = some x ∧ W.drew.cell? q = some y ∧ W.drew.cell? r = some z ∧ W.drew.cell? s = some t ∧ W.drew.cell? m = some x' ∧ W.drew.cell? n = some y' ∧ Below w.heap.size w W.drew := ⟨h1, h2, h4, h5, h6, h7, h3.drew⟩
theorem keepE6 {w W w1 : World} {p q r s m n : Addr} {x y z t x' y' : Value} (hp : p.block < w.heap.size) (hq : q.block < w.heap.size) (hr : r.block < w.heap.size) (hs : s.block < w.heap.size) (hm : m.block < w.heap.size) (hn : n.block < w.heap.size)
    (h1 : W.cell? p = some x) (h2 : W.cell? q = some y) (h4 : W.cell? r = some z) (h5 : W.cell? s = some t) (h6 : W.cell? m = some x') (h7 : W.cell? n = some y') (h3 : Below w.heap.size w W) (hb : Below W.heap.size W w1) :
    w1.cell? p = some x ∧ w1.cell? q = some y ∧ w1.cell? r = some z ∧ w1.cell? s = some t ∧ w1.cell? m = some x' ∧ w1.cell? n = some y' ∧ Below w.heap.size w w1 :=
  ⟨(hb.cell (Nat.lt_of_lt_of_le hp h3.size)).trans h1, (hb.cell (Nat.lt_of_lt_of_le hq h3.size)).trans h2, (hb.cell (Nat.lt_of_lt_of_le hr h3.size)).trans h4, (hb.cell (Nat.lt_of_lt_of_le hs h3.size)).trans h5, (hb.cell (Nat.lt_of_lt_of_le hm h3.size)).trans h6, (hb.cell (Nat.lt_of_lt_of_le hn h3.size)).trans h7, h3.trans (hb.mono h3.size)⟩

set_option maxRecDepth 100000 in
set_option maxHeartbeats 1600000 in
theorem eq_terms (ts : List Tm) (v u : Value) (w : World) (hv : Tms w v ts) (hu : Tms w u ts) :
    Calls Try.prog 53 #[v, u] w (Quiet w (.bool true)) := by
  have HV := Lib.hid hv
  have HU := Lib.hid hu
  obtain ⟨a, c, rfl, hm⟩ := hv.shape
  obtain ⟨a', c', rfl, _⟩ := hu.shape
  unfold maxLen at hm
  clear hv hu
  go_enter Try.func53, Try.ntmps53
  go_wp2
  go_loopw [5] (fun i wr => ∃ k : Nat, k ≤ ts.length ∧ i = .int .i64 k ∧ Below w.heap.size w wr) (fun i _ => ts.length - (RowKit.intOf i).toNat)
  case atStart => exact ⟨0, Nat.zero_le _, rfl, Below.refl _ _⟩
  case round =>
    obtain ⟨k, hk, rfl, hbr⟩ := hrel
    have HB := Lib.hid hbr
    by_cases hlt : k < ts.length
    · obtain ⟨b, off, x, xg, rfl, _, hb2, hcell, hcell1, hcell2, hsx, hrx⟩ := HV.out.term k hlt rfl
      obtain ⟨b', off', y, yg, rfl, _, hb2', hcell', hcell1', hcell2', hsy, hry⟩ := HU.out.term k hlt rfl
      rw [← hbr.cell (p := ⟨b, off + k * 3, none⟩) hb2] at hcell
      rw [← hbr.cell (p := ⟨b', off' + k * 3, none⟩) hb2'] at hcell'
      rw [← hbr.cell (p := ⟨b, off + k * 3 + 1, none⟩) hb2] at hcell1
      rw [← hbr.cell (p := ⟨b', off' + k * 3 + 1, none⟩) hb2'] at hcell1'
      rw [← hbr.cell (p := ⟨b, off + k * 3 + 2, none⟩) hb2] at hcell2
      rw [← hbr.cell (p := ⟨b', off' + k * 3 + 2, none⟩) hb2'] at hcell2'
      have HX := Lib.hid (show Tv _ (.agg #[.int .i64 ts[k].1, x, xg]) ts[k] from ⟨x, xg, rfl, hsx, hrx⟩)
      have HY := Lib.hid (show Tv _ (.agg #[.int .i64 ts[k].1, y, yg]) ts[k] from ⟨y, yg, rfl, hsy, hry⟩)
      have i1 : (0 : Int) ≤ (k : Int) := by omega
      have i2 : (k : Int) < (ts.length : Int) := by omega
      clear hsx hsy hrx hry
      go_wp2
      go_region_held3 (fun w' => w'.cell? ⟨b, off + k * 3, none⟩ = some (.int .i64 ts[k].1) ∧ w'.cell? ⟨b, off + k * 3 + 1, none⟩ = some x ∧ w'.cell? ⟨b, off + k * 3 + 2, none⟩ = some xg ∧ w'.cell? ⟨b', off' + k * 3, none⟩ = some (.int .i64 ts[k].1) ∧ w'.cell? ⟨b', off' + k * 3 + 1, none⟩ = some y ∧ w'.cell? ⟨b', off' + k * 3 + 2, none⟩ = some yg ∧ Below w.heap.size w w')
        (first | with_reducible exact keepF6 hcell hcell1 hcell2 hcell' hcell1' hcell2' hbr | (go_split_ands; with_reducible exact keepE6 hb2 hb2 hb2 hb2' hb2' hb2' (by assumption) (by assumption) (by assumption) (by assumption) (by assumption) (by assumption) (by assumption) (by assumption)) | go_keep)
        (first | (go_at_call 48; refine (eq_term ts[k] _ _ _ (HX.out.below HB.out.drew) (HY.out.below HB.out.drew)).mono ?_; rintro e w1 ⟨rfl, hb1⟩))
      rename_i hH
      have HB1 := Lib.hid hH.2.2.2.2.2.2
      clear hH hbr
      go_wp2
      exact ⟨⟨k + 1, by omega, by go_num, HB1.out⟩, by simp [RowKit.intOf]; omega⟩
    · obtain rfl : k = ts.length := by omega
      clear hbr
      go_wp2
      go_ret
      exact ⟨rfl, HB.out⟩
end Go.Proofs.Ytjijgagdaolkcaa
/- The laws' marks on terms. -/
namespace Go.Proofs.Ytjijgagdaolkcaa
open Go Go.RowKit Go.Lib

/-- Term j, opened: its cells, and what steps inside it alone do to the whole. -/
theorem OwT.open {lo hi g n c : Nat} {w : World} {l : List Tm} (h : OwT lo hi w (.slice (some ⟨g, 0, none⟩) n c) l) (j : Nat) (hj : j < l.length) :
    ∃ (u y : Value) (A B a b p q : Nat), lo ≤ g ∧ g < hi ∧ g < w.heap.size ∧ (w.cell? ⟨g, j * 3, none⟩ = some (.int .i64 l[j].1) ∧ w.cell? ⟨g, j * 3 + 1, none⟩ = some u ∧ w.cell? ⟨g, j * 3 + 2, none⟩ = some y) ∧ (∀ i, w.frozen? ⟨g, i, none⟩ = false) ∧
      OwnV 3 a b w u (intVals l[j].2.1) ∧ OwR 24 3 p q w y l[j].2.2 ∧ (lo ≤ A ∧ B ≤ hi) ∧ (g < A ∨ B ≤ g) ∧ (A ≤ a ∧ a ≤ b ∧ b ≤ B) ∧ (A ≤ p ∧ p ≤ q ∧ q ≤ B) ∧ (b ≤ p ∨ q ≤ a) ∧
      ∀ (z : Int) (xs : List Int) (zss : List (List Int)) (w' : World), Kept A B (w.setCell ⟨g, j * 3, none⟩ (.int .i64 z)) w' → OwnV 3 a b w' u (intVals xs) → OwR 24 3 p q w' y zss → OwT lo hi w' (.slice (some ⟨g, 0, none⟩) n c) (l.set j (z, xs, zss)) := by
  obtain ⟨fs, A, B, h⟩ := h
  obtain ⟨b', h1, h2, h3, h4, h5, h6, _, h7, h8⟩ := h.at j hj rfl
  simp only [Option.some.injEq, Addr.mk.injEq, and_true] at h1
  subst h1
  obtain ⟨k1, k2, k3, k4, hE⟩ := h.elem j hj
  obtain ⟨u, y, a, b, p, q, e, o1, o2, o3, o4, o5⟩ := hE
  have e0 := e
  rw [e] at h7
  have hout := h.out j g hj rfl
  refine ⟨u, y, A j, B j, a, b, p, q, h3, h4, h5, ⟨h7 0 (by omega), h7 1 (by omega), h7 2 (by omega)⟩, h8, o1, o2, ⟨k1, k3⟩, hout, o3, o4, o5, ?_⟩
  intro z xs zss w' hk x1 x2
  have hp := OwLx.poke keepsT h hj (i := 0) (by omega) (.int .i64 z) (x := (z, l[j].2.1, l[j].2.2)) (by rw [e0]; exact ⟨u, y, a, b, p, q, rfl, o1, o2, o3, o4, o5⟩)
  have hc : chunk 3 (fs.set (j * 3 + 0) (.int .i64 z)) j = [.int .i64 z, u, y] := by rw [chunk_at _ (by omega) h.len hj, e0]; rfl
  have hi2 := OwLx.inside keepsT hp (j := j) (by rw [List.length_set]; exact hj) (x := (z, xs, zss)) hk (by rw [hc]; exact ⟨u, y, a, b, p, q, rfl, x1, x2, o3, o4, o5⟩)
  rw [List.set_set] at hi2
  exact ⟨_, _, _, hi2⟩

set_option maxRecDepth 100000 in
set_option maxHeartbeats 1600000 in
theorem mark_terms (ts : List Tm) (lo hi k n : Nat) (v : Value) (w : World) (hk : 1 ≤ k) (hn : k + cntT ts = n) (hb : n ≤ 4611686018427387904) (how : OwT lo hi w v ts) :
    Calls Try.prog 59 #[v, .int .i64 k] w fun e w' => e = .returned (.int .i64 n) ∧ OwT lo hi w' v (tmarks k ts) ∧ Kept lo hi w w' := by
  subst hn
  obtain ⟨a, c, rfl, hm, hm2⟩ := how.shape
  have hs0 : OwT lo hi w (.slice a ts.length c) (tmarked k 0 ts) := by rw [tmarked_zero]; exact how
  unfold maxLen at hm2
  have HS := Lib.hid hs0
  clear hs0 how
  go_enter Try.func59, Try.ntmps59
  go_wp2
  go_loopw [1, 5] (fun q i wr => ∃ j : Nat, j ≤ ts.length ∧ i = .int .i64 j ∧ q = .int .i64 (k + cntT (ts.take j) : Nat) ∧ OwT lo hi wr (.slice a ts.length c) (tmarked k j ts) ∧ Kept lo hi w wr) (fun _ i _ => ts.length - (RowKit.intOf i).toNat)
  case atStart => exact ⟨0, Nat.zero_le _, rfl, by simp [cntT], HS.out, Kept.refl _ _ _⟩
  case round =>
    obtain ⟨j, hj, rfl, rfl, how, hkp⟩ := hrel
    have HK := Lib.hid hkp
    have HO := Lib.hid how
    by_cases hlt : j < ts.length
    · have hml : j < (tmarked k j ts).length := by rw [tmarked_len]; exact hlt
      obtain ⟨g, _, _, rfl, _, _, _, _, _⟩ := OwT.at3 how j hml rfl
      obtain ⟨u, y, A, B, p, q, r, s, g1, g2, g3, ⟨m0, m1, m2⟩, fr, o1, o2, o3, o4, o5, o6, o7, hset⟩ := OwT.open how j hml
      have MA := Lib.hid (tmarked_at k j ts hlt)
      rw [MA.out] at o1 o2 m0
      have TT := Lib.hid (cntT_take hlt)
      have htl := cntT_take_le ts (j + 1)
      rw [TT.out] at htl
      have ST := Lib.hid (tmarked_step k j ts hlt)
      obtain ⟨x, hx⟩ : ∃ x : Nat, k + cntT (ts.take j) = x := ⟨_, rfl⟩
      have hx1 : 1 ≤ x := by omega
      have HX := Lib.hid hx
      have hx2 : x + 1 + ts[j].2.1.length + tot ts[j].2.2 ≤ 4611686018427387904 := by omega
      rw [hx]
      rw [hx] at ST
      clear hx how hkp
      have O1 := Lib.hid o1
      have O2 := Lib.hid o2
      have O3 := Lib.hid (And.intro o3 (And.intro o4 (And.intro o5 (And.intro o6 o7))))
      have G1 := Lib.hid g1
      have G2 := Lib.hid g2
      have G3 := Lib.hid g3
      have HSET := Lib.hid hset
      have fr0 := fr (j * 3)
      have W0 := Lib.hid (HK.out.setCell (p := ⟨g, j * 3, none⟩) g1 g2 (.int .i64 x))
      have KP := Lib.hid ((Kept.refl g (g + 1) wr).setCell (p := ⟨g, j * 3, none⟩) (Nat.le_refl _) (Nat.lt_succ_self _) (.int .i64 x))
      have O1b := Lib.hid (O1.out.kept KP.out (by have := O3.out; omega))
      have O2b := Lib.hid (O2.out.kept KP.out (by have := O3.out; omega))
      have C1 : (wr.setCell ⟨g, j * 3, none⟩ (.int .i64 x)).cell? ⟨g, j * 3 + 1, none⟩ = some u := by exact (World.cell?_setCell_other wr ⟨g, j * 3, none⟩ ⟨g, j * 3 + 1, none⟩ (.int .i64 x) (by simp)).trans m1
      have C2 : (wr.setCell ⟨g, j * 3, none⟩ (.int .i64 x)).cell? ⟨g, j * 3 + 2, none⟩ = some y := by exact (World.cell?_setCell_other wr ⟨g, j * 3, none⟩ ⟨g, j * 3 + 2, none⟩ (.int .i64 x) (by simp)).trans m2
      clear o1 o2 o3 o4 o5 o6 o7 hset fr g1 g2
      have E1 := Lib.hid (show ((x : Int) + 1) = ((x + 1 : Nat) : Int) by omega)
      obtain ⟨x2, hxx⟩ : ∃ x2 : Nat, x + 1 + ts[j].2.1.length = x2 := ⟨_, rfl⟩
      obtain ⟨x3, hxy⟩ : ∃ x3 : Nat, x2 + tot ts[j].2.2 = x3 := ⟨_, rfl⟩
      have XX := Lib.hid hxx
      have XY := Lib.hid hxy
      have x21 : 1 ≤ x2 := by omega
      have x2b : x2 ≤ 4611686018427387904 := by omega
      have x3b : x3 ≤ 4611686018427387904 := by omega
      clear hxx hxy
      go_wp2_with fail
      rw [E1.out]
      refine (mark_row ts[j].2.1 p q (x + 1) x2 u _ (by omega) XX.out x2b O1b.out).mono ?_
      rintro e w1 ⟨rfl, hm1, -, hk1⟩
      have M1 := Lib.hid hm1
      have M2 := Lib.hid (O2b.out.kept hk1 (by have := O3.out; omega))
      have KA := Lib.hid (hk1.mono (lo' := A) (hi' := B) (by have := O3.out; omega) (by have := O3.out; omega))
      have G3b : g < (wr.setCell ⟨g, j * 3, none⟩ (.int .i64 x)).heap.size := by have := G3.out; simpa [World.setCell] using this
      have D2 : w1.cell? ⟨g, j * 3 + 2, none⟩ = some y := by
        have hb := KA.out.block g G3b (by have := O3.out; omega)
        unfold World.cell? at C2 ⊢
        simp only at C2 ⊢
        rw [hb]; exact C2
      clear hm1 hk1 C1 C2 m1 m2
      go_wp2_with fail
      refine (mark_rows ts[j].2.2 r s x2 x3 y _ x21 XY.out x3b M2.out).mono ?_
      rintro e w2 ⟨rfl, hm2', hk2⟩
      have HN := Lib.hid (HSET.out (x : Int) _ _ w2 (KA.out.trans (hk2.mono (by have := O3.out; omega) (by have := O3.out; omega))) (M1.out.kept hk2 (by have := O3.out; omega)) hm2')
      have HKN := Lib.hid (W0.out.trans ((KA.out.trans (hk2.mono (lo' := A) (hi' := B) (by have := O3.out; omega) (by have := O3.out; omega))).mono (lo' := lo) (hi' := hi) (by have := O3.out; omega) (by have := O3.out; omega)))
      clear hm2' hk2 D2
      go_wp2_with fail
      refine ⟨⟨j + 1, by omega, by go_num, ?_, ?_, HKN.out⟩, by simp [RowKit.intOf]; omega⟩
      · rw [TT.out]; exact int_eq (by have := HX.out; have := XX.out; have := XY.out; omega)
      · have h2 := HN.out
        rw [← XX.out] at h2
        have h3 := ST.out
        unfold tmark at h3
        rw [h3] at h2
        exact h2
    · obtain rfl : j = ts.length := by omega
      clear how hkp
      go_wp2
      go_ret
      have h2 := HO.out
      rw [tmarked_all] at h2
      exact ⟨ret_int (by rw [List.take_length]), h2, HK.out⟩

set_option maxRecDepth 100000 in
set_option maxHeartbeats 1600000 in
theorem held_terms (v : Value) (ts : List Tm) (k m : Nat) (w : World) (hk : 1 ≤ k) (hn : k + cntT ts = m) (hb : m ≤ 4611686018427387904) (hv : Tms w v (tmarks k ts)) :
    Calls Try.prog 60 #[v, .int .i64 k] w (Quiet w (.int .i64 m)) := by
  subst hn
  have HV := Lib.hid hv
  obtain ⟨a, c, rfl, hm⟩ := hv.shape
  rw [tmarks_len] at hm HV ⊢
  unfold maxLen at hm
  clear hv
  go_enter Try.func60, Try.ntmps60
  go_wp2
  go_loopw [1, 5] (fun q i wr => ∃ j : Nat, j ≤ ts.length ∧ i = .int .i64 j ∧ q = .int .i64 (k + cntT (ts.take j) : Nat) ∧ Below w.heap.size w wr) (fun _ i _ => ts.length - (RowKit.intOf i).toNat)
  case atStart => exact ⟨0, Nat.zero_le _, rfl, by simp [cntT], Below.refl _ _⟩
  case round =>
    obtain ⟨j, hj, rfl, rfl, hbr⟩ := hrel
    have HB := Lib.hid hbr
    by_cases hlt : j < ts.length
    · obtain ⟨b, off, u, g, rfl, hcc, hb2, hcell, hcell1, hcell2, hsl, hrw⟩ := HV.out.term j (by rw [tmarks_len]; exact hlt) (by rfl)
      have hgj : (tmarks k ts)[j]'(by rw [tmarks_len]; exact hlt) = tmark (k + cntT (ts.take j)) ts[j] := by
        have h1 := tmarks_get k ts j hlt
        rw [List.getElem?_eq_getElem (by rw [tmarks_len]; exact hlt)] at h1
        exact Option.some.inj h1
      rw [hgj] at hcell hsl hrw
      obtain ⟨x, hx⟩ : ∃ x : Nat, k + cntT (ts.take j) = x := ⟨_, rfl⟩
      have TT := Lib.hid (cntT_take hlt)
      have htl := cntT_take_le ts (j + 1)
      rw [TT.out] at htl
      rw [hx] at hcell hsl hrw ⊢
      unfold tmark at hcell hsl hrw
      simp only at hcell hsl hrw
      have hx1 : 1 ≤ x := by omega
      have HX := Lib.hid hx
      have hx2 : x + 1 + ts[j].2.1.length + tot ts[j].2.2 ≤ 4611686018427387904 := by omega
      obtain ⟨x2, hxx⟩ : ∃ x2 : Nat, x + 1 + ts[j].2.1.length = x2 := ⟨_, rfl⟩
      rw [hxx] at hrw
      obtain ⟨x3, hxy⟩ : ∃ x3 : Nat, x2 + tot ts[j].2.2 = x3 := ⟨_, rfl⟩
      have XX := Lib.hid hxx
      have XY := Lib.hid hxy
      have x21 : 1 ≤ x2 := by omega
      have x2b : x2 ≤ 4611686018427387904 := by omega
      have x3b : x3 ≤ 4611686018427387904 := by omega
      have E1 := Lib.hid (show ((x : Int) + 1) = ((x + 1 : Nat) : Int) by omega)
      rw [← hbr.cell (p := ⟨b, off + j * 3, none⟩) hb2] at hcell
      have HS := Lib.hid (hsl.below hbr)
      have HR := Lib.hid (hrw.below hbr)
      have hcA := (hbr.cell (p := ⟨b, off + j * 3 + 1, none⟩) hb2).trans hcell1
      have hcB := (hbr.cell (p := ⟨b, off + j * 3 + 2, none⟩) hb2).trans hcell2
      have S2 := Lib.hid (Nat.lt_of_lt_of_le hb2 hbr.size)
      clear hx hxx hxy hbr hsl hrw hgj hcell1 hcell2
      go_wp2_with fail
      rw [E1.out]
      refine (held_int u ts[j].2.1.length (x + 1) x2 _ (by omega) XX.out x2b HS.out).mono ?_
      rintro e w1 ⟨rfl, hb1⟩
      have HB1 := Lib.hid (HB.out.trans (hb1.mono HB.out.size))
      have hcC := (hb1.cell (p := ⟨b, off + j * 3 + 2, none⟩) S2.out).trans hcB
      have HR1 := Lib.hid (HR.out.below hb1)
      clear hb1 hcA hcB hcell
      go_wp2_with fail
      refine (held_rows g ts[j].2.2 x2 x3 _ x21 XY.out x3b HR1.out).mono ?_
      rintro e w2 ⟨rfl, hb1⟩
      have HB2 := Lib.hid (HB1.out.trans (hb1.mono HB1.out.size))
      clear hb1 hcC
      go_wp2_with fail
      exact ⟨⟨j + 1, by omega, by go_num, by rw [TT.out]; exact int_eq (by have := HX.out; have := XX.out; have := XY.out; omega), HB2.out⟩, by simp [RowKit.intOf]; omega⟩
    · obtain rfl : j = ts.length := by omega
      clear hbr
      go_wp2
      go_ret
      exact ⟨ret_int (by rw [List.take_length]), HB.out⟩
end Go.Proofs.Ytjijgagdaolkcaa
/- Terms in laws: small facts. -/
namespace Go.Proofs.Ytjijgagdaolkcaa
open Go Go.RowKit Go.Lib

theorem Tms.shape {w : World} {v : Value} {ts : List Tm} (h : Tms w v ts) : ∃ (a : Option Addr) (c : Nat), v = .slice a ts.length c ∧ ts.length ≤ maxLen ∧ True := by
  obtain ⟨a, c, h1, h2⟩ := RdL.shape h
  exact ⟨a, c, h1, h2, trivial⟩
theorem Tms.below {w w' : World} {v : Value} {ts : List Tm} (h : Tms w v ts) (hb : Below w.heap.size w w') : Tms w' v ts := h.since hb
theorem OwT.below {lo hi : Nat} {w w' : World} {v : Value} {ts : List Tm} (h : OwT lo hi w v ts) (hb : Below w.heap.size w w') : OwT lo hi w' v ts := OwL.below keepsT h hb
theorem OwT.kept {lo hi a b : Nat} {w w' : World} {v : Value} {ts : List Tm} (h : OwT lo hi w v ts) (hk : Kept a b w w') (hd : hi ≤ a ∨ b ≤ lo) : OwT lo hi w' v ts := OwL.kept keepsT h hk hd
theorem OwT.mono {lo hi lo' hi' : Nat} {w : World} {v : Value} {ts : List Tm} (h : OwT lo hi w v ts) (h1 : lo' ≤ lo) (h2 : hi ≤ hi') : OwT lo' hi' w v ts := OwL.mono h h1 h2
theorem cnt_le7 : ∀ (ts : List Tm), (∀ t ∈ ts, t.2.1.length + tot t.2.2 ≤ 6) → cntT ts ≤ 7 * ts.length
  | [], _ => by simp [cntT]
  | t :: ts, h => by
    have ih := cnt_le7 ts fun x hx => h x (List.mem_cons_of_mem _ hx)
    have h1 := h t (List.mem_cons_self ..)
    simp only [cntT, List.map_cons, List.sum_cons, List.length_cons] at ih ⊢
    omega
theorem split_row2 {c : Cn} (k : Nat) : ((splitR c).getD k []).length ≤ 2 := by
  rw [List.getD_eq_getElem?_getD]
  cases h : (splitR c)[k]? with
  | none => simp
  | some r =>
    have hr := List.mem_of_getElem? h
    unfold splitR at hr
    split at hr
    · obtain ⟨p, _, rfl⟩ := List.mem_map.1 hr
      simp [rowOf]
    · cases hr
theorem seriesR_cnt (c : Cn) (s : List Int) : cntT (seriesR c s).1 ≤ 1048576 := by
  unfold seriesR
  split
  · rename_i h
    have hs := (planeR_t h.2.1).2.1
    have h3 := h.2.2
    have hl : (pairsT s (splitR c) ((splitR c).length - 1) ++ onesT s (splitR c) ((splitR c).length - 2)).length ≤ 64 := by
      rw [List.length_append, pairs_len, ones_len]; omega
    have hc := cnt_le7 (pairsT s (splitR c) ((splitR c).length - 1) ++ onesT s (splitR c) ((splitR c).length - 2)) (fun t ht => by
      rcases List.mem_append.1 ht with h | h
      · obtain ⟨k, _, rfl⟩ := List.mem_map.1 h
        have a := split_row2 (c := c) k
        have b := split_row2 (c := c) (k + 1)
        simp only [tot, List.map_cons, List.map_nil, List.sum_cons, List.sum_nil]
        omega
      · obtain ⟨k, _, rfl⟩ := List.mem_map.1 h
        have b := split_row2 (c := c) (k + 1)
        simp only [tot, List.map_cons, List.map_nil, List.sum_cons, List.sum_nil]
        omega)
    show cntT (pairsT s (splitR c) ((splitR c).length - 1) ++ onesT s (splitR c) ((splitR c).length - 2)) ≤ 1048576
    omega
  · simp [cntT]
end Go.Proofs.Ytjijgagdaolkcaa
