/- Equality of halves and regions that read alike. -/
import Derived.Test.YtjijgagdaolkcaaMam
import Derived.Test.YtjijgagdaolkcaaRowEq
import Derived.Test.YtjijgagdaolkcaaMac
import Derived.Test.YtjijgagdaolkcaaMad
import Derived.Test.YtjijgagdaolkcaaMaf
namespace Go.Proofs.Ytjijgagdaolkcaa
open Go.RowKit Go.Lib

theorem keepF4 {w W : World} {p q r s : Addr} {x y z t : Value} (h1 : W.cell? p = some x) (h2 : W.cell? q = some y) (h4 : W.cell? r = some z) (h5 : W.cell? s = some t) (h3 : Below w.heap.size w W) : W.drew.cell? p = some x ∧ W.drew.cell? q = some y ∧ W.drew.cell? r = some z ∧ W.drew.cell? s = some t ∧ Below w.heap.size w W.drew := ⟨h1, h2, h4, h5, h3.drew⟩
theorem keepE4 {w W w1 : World} {p q r s : Addr} {x y z t : Value} (hp : p.block < w.heap.size) (hq : q.block < w.heap.size) (hr : r.block < w.heap.size) (hs : s.block < w.heap.size) (h1 : W.cell? p = some x) (h2 : W.cell? q = some y) (h4 : W.cell? r = some z) (h5 : W.cell? s = some t) (h3 : Below w.heap.size w W) (hb : Below W.heap.size W w1) :
    w1.cell? p = some x ∧ w1.cell? q = some y ∧ w1.cell? r = some z ∧ w1.cell? s = some t ∧ Below w.heap.size w w1 :=
  ⟨(hb.cell (Nat.lt_of_lt_of_le hp h3.size)).trans h1, (hb.cell (Nat.lt_of_lt_of_le hq h3.size)).trans h2, (hb.cell (Nat.lt_of_lt_of_le hr h3.size)).trans h4, (hb.cell (Nat.lt_of_lt_of_le hs h3.size)).trans h5, h3.trans (hb.mono h3.size)⟩

end Go.Proofs.Ytjijgagdaolkcaa
/- Cones as values, and what the law's helpers do with them. -/
namespace Go.Proofs.Ytjijgagdaolkcaa
open Go Go.RowKit Go.Lib Go.ChangeShapes Go.WideShapes Go.Deep Go.Joins

/-- A cone as a value that reads so; one that the call made itself. -/
def Cv (w : World) (v : Value) (c : Cn) : Prop := ∃ u t, v = .agg #[u, t] ∧ Sl w u (intVals c.1) ∧ Sl w t (intVals c.2)
theorem Cv.below {w w' : World} {v : Value} {c : Cn} (k : Cv w v c) (hb : Below w.heap.size w w') : Cv w' v c := by
  obtain ⟨u, t, e, k1, k2⟩ := k
  exact ⟨u, t, e, k1.below hb, k2.below hb⟩
def OwC (lo hi : Nat) (w : World) (u t : Value) (c : Cn) : Prop := OwnV 3 lo hi w u (intVals c.1) ∧ OwnV 3 lo hi w t (intVals c.2) ∧ ∀ b, u.ownBlock = some b → t.ownBlock ≠ some b
theorem OwC.cv {lo hi : Nat} {w : World} {u t : Value} {c : Cn} (k : OwC lo hi w u t c) : Cv w (.agg #[u, t]) c := ⟨u, t, rfl, k.1.sl, k.2.1.sl⟩
theorem OwC.below {lo hi : Nat} {w w' : World} {u t : Value} {c : Cn} (k : OwC lo hi w u t c) (hb : Below w.heap.size w w') : OwC lo hi w' u t c := ⟨k.1.below hb, k.2.1.below hb, k.2.2⟩
theorem OwC.kept {lo hi a b : Nat} {w w' : World} {u t : Value} {c : Cn} (k : OwC lo hi w u t c) (hk : Kept a b w w') (hd : hi ≤ a ∨ b ≤ lo) : OwC lo hi w' u t c := ⟨k.1.kept hk hd, k.2.1.kept hk hd, k.2.2⟩
theorem OwC.mono {lo hi lo' hi' : Nat} {w : World} {u t : Value} {c : Cn} (k : OwC lo hi w u t c) (h1 : lo' ≤ lo) (h2 : hi ≤ hi') : OwC lo' hi' w u t c := ⟨k.1.mono h1 h2, k.2.1.mono h1 h2, k.2.2⟩
theorem OwC.shape {lo hi : Nat} {w : World} {u t : Value} {c : Cn} (k : OwC lo hi w u t c) : ∃ (a : Option Addr) (n : Nat) (b : Option Addr) (m : Nat), u = .slice a c.1.length n ∧ t = .slice b c.2.length m := by
  obtain ⟨a, n, e, _⟩ := k.1.shape1
  obtain ⟨b, m, e2, _⟩ := k.2.1.shape1
  rw [intVals_len] at e e2
  exact ⟨a, n, b, m, e, e2⟩
theorem OwC.nil {lo hi : Nat} {w : World} : OwC lo hi w (.slice none 0 0) (.slice none 0 0) ([], []) := ⟨OwnV.nil, OwnV.nil, fun b hb => by cases hb⟩
def MadeC (w : World) (c : Cn) (e : Ending) (w' : World) : Prop := (∃ v, e = .returned v ∧ ∃ u t, v = .agg #[u, t] ∧ OwC w.heap.size w'.heap.size w' u t c) ∧ Below w.heap.size w w'
def GotC (w : World) (r : Cn × Bool) (e : Ending) (w' : World) : Prop := (∃ v, e = .returned (.tuple #[v, .bool r.2]) ∧ ∃ u t, v = .agg #[u, t] ∧ OwC w.heap.size w'.heap.size w' u t r.1) ∧ Below w.heap.size w w'
theorem sz_set' (w : World) (p : Addr) (v : Value) : (w.setCell p v).heap.size = w.heap.size := by simp [World.setCell]

set_option maxRecDepth 100000 in
set_option maxHeartbeats 800000 in
theorem to_cone (c : Cn) (v : Value) (w : World) (hv : Cv w v c) (hl : c.1.length ≤ 1048576 ∧ c.2.length ≤ 1048576) :
    Calls Try.prog 55 #[v] w (MadeC w c) := by
  obtain ⟨u, t, rfl, hs, ht⟩ := hv
  have HS := Lib.hid hs
  have HT := Lib.hid ht
  have K := Lib.hid (Bk.three w #[u, t] #[.slice none 0 0, .slice none 0 0] #[.slice none 0 0, .slice none 0 0] 70 26 26)
  have B0 := Lib.hid (below3 w (.cells #[u, t] 70) (.cells #[.slice none 0 0, .slice none 0 0] 26) (.cells #[.slice none 0 0, .slice none 0 0] 26))
  clear hs ht
  go_enter Try.func55, Try.ntmps55
  go_wp2_with fail
  refine (to_int c.1 u _ (HS.out.below B0.out) hl.1).mono ?_
  rintro e w1 ⟨⟨r, rfl, ho⟩, hb⟩
  have ho := OwnV.of_owns ho
  have HO := Lib.hid ho
  have K1 := Lib.hid (K.out.1.below hb)
  have K2 := Lib.hid (K.out.2.1.below hb)
  have K3 := Lib.hid (K.out.2.2.below hb)
  have S1 := Lib.hid hb.size
  obtain ⟨⟨a0, a1⟩, _⟩ := K1.out.two
  obtain ⟨⟨b0, b1⟩, f0, f1⟩ := K3.out.two
  have B1 := Lib.hid (B0.out.trans (hb.mono B0.out.size))
  obtain ⟨ra, rc, rfl, _⟩ := ho.shape1
  clear hb ho
  have B2 := Lib.hid (B1.out.setCell (p := ⟨w.heap.size + 1 + 1, 0, none⟩) (by simp; omega) (.slice ra (intVals c.1).length rc))
  have K1b := Lib.hid (K1.out.other (p := ⟨w.heap.size + 1 + 1, 0, none⟩) (by simp; omega) (.slice ra (intVals c.1).length rc))
  have K2b := Lib.hid (K2.out.other (p := ⟨w.heap.size + 1 + 1, 0, none⟩) (by simp) (.slice ra (intVals c.1).length rc))
  have K3b := Lib.hid (K3.out.set0 (.slice ra (intVals c.1).length rc))
  have HOb := Lib.hid (HO.out.kept ((Kept.refl w.heap.size (w.heap.size + 3) w1).setCell (p := ⟨w.heap.size + 1 + 1, 0, none⟩) (by simp; omega) (by simp) (.slice ra (intVals c.1).length rc)) (.inr (by simp)))
  obtain ⟨⟨e0, e1⟩, _⟩ := K1b.out.two
  go_wp2_with fail
  refine (to_int c.2 t _ (HT.out.below B2.out) hl.2).mono ?_
  rintro e w2 ⟨⟨r2, rfl, ho2⟩, hb2⟩
  have ho2 := OwnV.of_owns ho2
  have HO2 := Lib.hid ho2
  have HO3 := Lib.hid (HOb.out.below hb2)
  have S2 := Lib.hid hb2.size
  obtain ⟨⟨c0, c1⟩, g0, g1⟩ := (K3b.out.below hb2).two
  obtain ⟨⟨d0, d1⟩, h0, h1⟩ := (K2b.out.below hb2).two
  have B3 := Lib.hid (B2.out.trans (hb2.mono B2.out.size))
  obtain ⟨ra2, rc2, rfl, _⟩ := ho2.shape1
  clear hb2 ho2 a0 a1 b0 b1 f0 f1 e0 e1
  go_wp2
  refine bodyPost_ret (v := .agg #[.slice ra (intVals c.1).length rc, .slice ra2 (intVals c.2).length rc2]) ?_ rfl ⟨⟨_, rfl, _, _, rfl, ?_, ?_, ?_⟩, ((B3.out.setCell (by simp; omega) _).setCell (by simp) _).setCell (by simp) _⟩
  · simp [results, Try.results55, go_sem, d0, d1]
  · exact ((HO3.out.kept ((((Kept.refl w.heap.size (w.heap.size + 3) w2).setCell (by simp; omega) (by simp) _).setCell (by simp) (by simp) _).setCell (by simp) (by simp) _) (.inr (by simp))).mono (by simp; omega) (by have := S2.out; rw [sz_set'] at this; simpa [World.setCell] using this))
  · exact ((HO2.out.kept ((((Kept.refl w.heap.size (w.heap.size + 3) w2).setCell (by simp; omega) (by simp) _).setCell (by simp) (by simp) _).setCell (by simp) (by simp) _) (.inr (by have := S1.out; simp [World.setCell] at this ⊢; omega))).mono (by have := S1.out; simp [World.setCell] at this ⊢; omega) (by simp [World.setCell]))
  · intro b hb hb'
    have p1 := (HO3.out.place hb)
    have p2 := (HO2.out.place hb')
    rw [sz_set'] at p2
    omega

set_option maxRecDepth 100000 in
set_option maxHeartbeats 400000 in
theorem sz_cone (c : Cn) (v : Value) (left : Int) (w : World) (hv : Cv w v c) (h1 : 0 ≤ left) (h2 : left ≤ 1048576) :
    Calls Try.prog 54 #[v, .int .i64 left] w (Quiet w (.int .i64 (szI left ((c.1.length : Int) + c.2.length)))) := by
  obtain ⟨u, t, rfl, hs, ht⟩ := hv
  have HS := Lib.hid hs
  have HT := Lib.hid ht
  have B0 := Lib.hid (below1 w (.cells #[u, t] 70))
  have K := Lib.hid (Bk.new w #[u, t] 70)
  obtain ⟨⟨k0, k1⟩, _⟩ := K.out.two
  clear hs ht
  by_cases hf : left < c.1.length
  · have E := Lib.hid (szI_small hf)
    have E2 := Lib.hid (szI_small (show left < (c.1.length : Int) + c.2.length by omega))
    clear hf
    go_enter Try.func54, Try.ntmps54
    go_wp2_with fail
    refine (sz_int c.1 u left _ (HS.out.below B0.out) (by omega) h2).mono ?_
    rintro e w1 ⟨rfl, rfl⟩
    rw [E.out]
    go_wp2_with fail
    go_ret
    exact ⟨ret_int E2.out.symm, B0.out⟩
  · have E := Lib.hid (szI_fits hf)
    have h5 : ¬ left - c.1.length < 0 := by omega
    obtain ⟨l, hl⟩ : ∃ l, left - (c.1.length : Int) = l := ⟨_, rfl⟩
    rw [hl] at E h5
    have HL := Lib.hid hl
    have l0 : 0 ≤ l := by omega
    have l1 : l ≤ 1048576 := by omega
    clear hf
    by_cases hg : l < c.2.length
    · have E1 := Lib.hid (szI_small hg)
      have E2 := Lib.hid (szI_small (show left < (c.1.length : Int) + c.2.length by omega))
      clear hg hl
      go_enter Try.func54, Try.ntmps54
      go_wp2_with fail
      refine (sz_int c.1 u left _ (HS.out.below B0.out) (by omega) h2).mono ?_
      rintro e w1 ⟨rfl, rfl⟩
      rw [E.out]
      go_wp2_with fail
      refine (sz_int c.2 t l _ (HT.out.below B0.out) (by omega) l1).mono ?_
      rintro e w2 ⟨rfl, rfl⟩
      rw [E1.out]
      go_wp2_with fail
      go_ret
      exact ⟨ret_int E2.out.symm, B0.out⟩
    · have E1 := Lib.hid (szI_fits hg)
      have E2 := Lib.hid (show l - c.2.length = szI left ((c.1.length : Int) + c.2.length) by rw [szI_fits (by omega)]; omega)
      have h6 : ¬ l - c.2.length < 0 := by omega
      clear hg hl
      go_enter Try.func54, Try.ntmps54
      go_wp2_with fail
      refine (sz_int c.1 u left _ (HS.out.below B0.out) (by omega) h2).mono ?_
      rintro e w1 ⟨rfl, rfl⟩
      rw [E.out]
      go_wp2_with fail
      refine (sz_int c.2 t l _ (HT.out.below B0.out) (by omega) l1).mono ?_
      rintro e w2 ⟨rfl, rfl⟩
      rw [E1.out]
      go_wp2_with fail
      go_ret
      exact ⟨ret_int E2.out, B0.out⟩

set_option maxRecDepth 100000 in
set_option maxHeartbeats 400000 in
theorem eq_cone (c : Cn) (v u : Value) (w : World) (hv : Cv w v c) (hu : Cv w u c) :
    Calls Try.prog 56 #[v, u] w (Quiet w (.bool true)) := by
  obtain ⟨x, x', rfl, hx, hx'⟩ := hv
  obtain ⟨y, y', rfl, hy, hy'⟩ := hu
  have HX := Lib.hid (And.intro hx hx')
  have HY := Lib.hid (And.intro hy hy')
  have B0 := Lib.hid (below2 w (.cells #[x, x'] 26) (.cells #[y, y'] 26))
  have K := Lib.hid (Bk.pair w #[x, x'] #[y, y'] 26 26)
  clear hx hy hx' hy'
  go_enter Try.func56, Try.ntmps56
  go_wp2_with fail
  refine (eq_int c.1 x y _ (HX.out.1.below B0.out) (HY.out.1.below B0.out)).mono ?_
  rintro e w1 ⟨rfl, hb⟩
  have B1 := Lib.hid (B0.out.trans (hb.mono B0.out.size))
  obtain ⟨⟨_, a1⟩, _⟩ := (K.out.1.below hb).two
  obtain ⟨⟨_, b1⟩, _⟩ := (K.out.2.below hb).two
  clear hb
  go_wp2_with fail
  refine (eq_int c.2 x' y' _ (HX.out.2.below B1.out) (HY.out.2.below B1.out)).mono ?_
  rintro e w2 ⟨rfl, hb⟩
  have B2 := Lib.hid (B1.out.trans (hb.mono B1.out.size))
  clear hb a1 b1
  go_wp2_with fail
  go_ret
  exact ⟨rfl, B2.out⟩

def cmarks (k : Nat) (c : Cn) : Cn := (imarks k c.1.length, imarks (k + c.1.length) c.2.length)
theorem own_far {e : TypeId} {lo hi : Nat} {w w' : World} {u t : Value} {xs : List Value} (h : OwnV e lo hi w t xs) (hd : ∀ b, u.ownBlock = some b → t.ownBlock ≠ some b) (hk : ∀ g, (∀ b, u.ownBlock = some b → b = g) → Kept g (g + 1) w w') : OwnV e lo hi w' t xs := by
  rcases h with h | ⟨g, cap, cur, rfl, h1, h2, hb, hr⟩
  · exact .inl h
  · cases hu : u.ownBlock with
    | none =>
      have := hk (g + 1) (fun b hb => by rw [hu] at hb; cases hb)
      exact .inr ⟨g, cap, cur, rfl, h1, h2, by rw [this.block g (lt_of_heap hb) (.inl (Nat.lt_succ_self _))]; exact hb, hr⟩
    | some b =>
      have hne := hd b hu
      have hbg : b ≠ g := fun e => hne (by rw [e]; rfl)
      have := hk b (fun b' hb' => by rw [hu] at hb'; exact (Option.some.inj hb').symm)
      exact .inr ⟨g, cap, cur, rfl, h1, h2, by rw [this.block g (lt_of_heap hb) (by omega)]; exact hb, hr⟩
set_option maxRecDepth 100000 in
set_option maxHeartbeats 400000 in
theorem mark_cone (c : Cn) (lo hi k n : Nat) (u t : Value) (w : World) (hk : 1 ≤ k) (hn : k + (c.1.length + c.2.length) = n) (hb : n ≤ 4611686018427387904) (how : OwC lo hi w u t c) :
    Calls Try.prog 57 #[.agg #[u, t], .int .i64 k] w fun e w' => e = .returned (.int .i64 n) ∧ OwC lo hi w' u t (cmarks k c) ∧ Kept lo hi w w' := by
  have B0 := Lib.hid (below1 w (.cells #[u, t] 26))
  have K := Lib.hid (Bk.new w #[u, t] 26)
  have HS := Lib.hid (how.below B0.out)
  have HP := Lib.hid (And.intro how.1 how.2.1)
  have hlo : ∀ b, u.ownBlock = some b → b < w.heap.size := fun b h => (how.1.place h).2.2
  have HL := Lib.hid hlo
  obtain ⟨⟨k0, k1⟩, _⟩ := K.out.two
  obtain ⟨m, hm⟩ : ∃ m, k + c.1.length = m := ⟨_, rfl⟩
  have HM := Lib.hid hm
  have hm1 : 1 ≤ m := by omega
  have hmn : m + c.2.length = n := by omega
  have HMN := Lib.hid hmn
  clear how hn hlo hm hmn
  go_enter Try.func57, Try.ntmps57
  go_wp2_with fail
  refine (mark_row c.1 lo hi k m u _ hk HM.out (by have := HMN.out; omega) HS.out.1).mono ?_
  rintro e w1 ⟨rfl, ho, hf, hkk⟩
  have HT := Lib.hid (own_far HS.out.2.1 HS.out.2.2 hf)
  have kb : w1.cell? ⟨w.heap.size, 1, none⟩ = some t := by
    have h := fun g hg => hf g hg
    cases hu : u.ownBlock with
    | none => rw [cell_of_row _ _ 1 _ _ _ (show w1.heap[w.heap.size]? = some (.cells #[u, t] 26 (0, 0)) by rw [(hf (w.heap.size + 1) (fun b hb => by rw [hu] at hb; cases hb)).block w.heap.size (by simp) (.inl (Nat.lt_succ_self _))]; exact K.out)]; rfl
    | some b =>
      have hb := HL.out b hu
      rw [cell_of_row _ _ 1 _ _ _ (show w1.heap[w.heap.size]? = some (.cells #[u, t] 26 (0, 0)) by rw [(hf b (fun b' hb' => by rw [hu] at hb'; exact (Option.some.inj hb').symm)).block w.heap.size (by simp) (.inr (by omega))]; exact K.out)]; rfl
  have HO := Lib.hid ho
  have HK := Lib.hid ((Kept.of_below B0.out).trans hkk : Kept lo hi w w1)
  clear ho hf hkk k0 k1
  go_wp2_with fail
  refine (mark_row c.2 lo hi m n t _ hm1 HMN.out (by omega) HT.out).mono ?_
  rintro e w2 ⟨rfl, ho2, hf2, hk2⟩
  have HO3 := Lib.hid (own_far HO.out (fun b hb e => HS.out.2.2 b e hb) hf2)
  have HO2 := Lib.hid ho2
  have HK2 := Lib.hid (HK.out.trans hk2)
  clear ho2 hf2 hk2 kb
  go_wp2_with fail
  go_ret
  exact ⟨rfl, ⟨HO3.out, by show OwnV 3 lo hi _ t (intVals (imarks (k + c.1.length) c.2.length)); rw [HM.out]; exact HO2.out, HS.out.2.2⟩, HK2.out⟩

section
variable {H : Type} {enc : TypeId × Value → H} {P : Program}
theorem cv_came {W : World} {base b0 : Nat} {r : Reach} {sp : Nat → Bool} {held : Bool} {R q : TypeId} {f0 f1 : Field} {v : Value} {d : DataW H} {p : List MemPlace}
    (hR : P.underlying R = some (.struct #[f0, f1])) (hone : oneCellFields P #[f0, f1] = true) (hC : P.cellsOf R = 2)
    (h0 : P.underlying f0.type = some (.slice q)) (h1 : P.underlying f1.type = some (.slice q)) (hq : P.underlying q = some (.int .i64)) (cq : P.cellsOf q = 1)
    (hv : Value.okWide P W r b0 R v) (h : DataW.Trod enc P W base sp held R v d p) : ∃ z : Cn, True ∧ Cv W v z ∧ True := by
  obtain ⟨v0, v1, y0, y1, n, rfl, _, _, k0, k1⟩ := open_agg2 hR hone hC hv h
  obtain ⟨zs, k2, _⟩ := sl_of_trod h0 hq cq k0
  obtain ⟨ts, k3, _⟩ := sl_of_trod h1 hq cq k1
  exact ⟨(zs, ts), trivial, ⟨v0, v1, rfl, k2, k3⟩, trivial⟩
end
end Go.Proofs.Ytjijgagdaolkcaa
