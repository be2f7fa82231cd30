/- A region that draws its order and ends in a store that waits for all its loads: the loads may be taken first, though the store changes what they read. -/
import Derived.Test.YtflkalgofkpdbaaDoorMa
import Derived.OrdersHeld
import Derived.Deep.RegionHeld
import Derived.Test.YtflkalgofkpdbaaDoorMc
import Derived.Test.YtflkalgofkpdbaaDoorMb
import Derived.Deep.RegionHeld3
import Derived.Deep.RegionWith
import Derived.Test.YtflkalgofkpdbaaDoorProg
import Derived.WalkLawsBesides
import Derived.WalkSpells
import Derived.BigQuiet
import Derived.Deep.QuietTactic
import Derived.ProofKit
import Derived.OpenShut
import Derived.ChangeOld
import Derived.Carry
import Derived.Below
namespace Go.Proofs.YtflkalgofkpdbaaDoor
open Go Go.RowKit

section
variable {P : Program} {ops : Array Oper} {Q : Exit → Act → World → Prop} {md : Region.Mode} {S : World → Prop} {z : Nat → Bool}

/-- Whatever comes up next, and S holds behind it, but behind a number of z S need not hold. -/
def wpAnyT (P : Program) (md : Region.Mode) (ops : Array Oper) (Q : Exit → Act → World → Prop) (S : World → Prop) (z : Nat → Bool) : Nat → Array Bool → Act → World → Prop
  | 0, listed, a, w => Region.ready md ops listed = [] ∧ Q .normal a w
  | f + 1, listed, a, w =>
    (Region.ready md ops listed = [] → Q .normal a w) ∧
    ∀ i ∈ Region.ready md ops listed, wpOp P ops Q i (fun a' w' => (z i = false → S w') ∧ wpAnyT P md ops Q S z f (listed.setIfInBounds i true) a' w') a w
theorem any_of_T : ∀ (f : Nat) (listed : Array Bool) (a : Act) (w : World), wpAnyT P md ops Q S z f listed a w → wpAny P md ops Q f listed a w
  | 0, _, _, _, h => h
  | f + 1, _, _, _, h => ⟨h.1, fun i hi => wpOp_mono (fun a' w' k => any_of_T f _ a' w' k.2) (h.2 i hi)⟩

/-- Number i may be taken first, if z waits for it. -/
theorem T_first {i : Nat} {oi : Oper} {v : Value} (hi : ops[i]? = some oi) (hsel : ∀ (j : Nat) (o : Oper) cs b, ops[j]? = some o → o.op ≠ .select cs b)
    (hQ : ∀ c a w, Q (.panic c) (a.put oi.dst v) w → Q (.panic c) a w) (hz : ∀ k, z k = true → ∀ oz, ops[k]? = some oz → ∃ e ∈ oz.after, Region.binds md e = true ∧ e.on = i) :
    ∀ (f : Nat) (listed : Array Bool) (a : Act) (w : World),
      (∀ j oj, ops[j]? = some oj → j ≠ i → listed.getD j true = false → (∀ e ∈ oj.after, Region.binds md e = true → e.on ≠ i) → oi.apart ops oj = true) →
      i ∈ Region.ready md ops listed → YieldsIf P ops S oi v a → S w →
      wpAnyT P md ops Q S z f (listed.setIfInBounds i true) (a.put oi.dst v) w → wpAnyT P md ops Q S z (f + 1) listed a w := by
  intro f
  induction f with
  | zero =>
    intro listed a w _ hr hy hS H
    refine ⟨fun h => (by rw [h] at hr; cases hr), fun j hj => ?_⟩
    by_cases hji : j = i
    · subst hji
      exact hy.wpOp hi hS ⟨fun _ => hS, H⟩
    · have hm := ready_mono hj hji
      rw [H.1] at hm
      cases hm
  | succ f ih =>
    intro listed a w hap hr hy hS H
    refine ⟨fun h => (by rw [h] at hr; cases hr), fun j hj => ?_⟩
    by_cases hji : j = i
    · subst hji
      exact hy.wpOp hi hS ⟨fun _ => hS, H⟩
    · have k1 := H.2 j (ready_mono hj hji)
      obtain ⟨hun, oj, hoj, hall⟩ := mem_ready.1 hj
      -- i has not come up: whoever waits for it has not either
      have hwait : ∀ e ∈ oj.after, Region.binds md e = true → e.on ≠ i := fun e he hb heq => by
        have g1 := hall e he hb
        have g0 := (mem_ready.1 hr).1
        rw [heq] at g1
        by_cases hlt : i < listed.size
        · simp [hlt] at g0 g1
          rw [g0] at g1
          cases g1
        · simp [Array.getElem?_eq_none (Nat.le_of_not_lt hlt)] at g1
      have hjz : z j = false := by
        cases hzj : z j with
        | false => rfl
        | true =>
          obtain ⟨e, he, hb, hon⟩ := hz j hzj oj hoj
          exact absurd hon (hwait e he hb)
      have k2 := wpOp_putIf hoj (hap j oj hoj hji hun hwait) (fun cs b => hsel i oi cs b hi) (fun cs b => hsel j oj cs b hoj) hQ hy k1
      refine wpOp_mono (fun a' w' k3 => ⟨fun _ => k3.2.1 hjz, ih (listed.setIfInBounds j true) a' w' ?_ (ready_mono hr (Ne.symm hji)) k3.1 (k3.2.1 hjz) ?_⟩) k2
      · intro k ok hk hki hun2 hno
        refine hap k ok hk hki ?_ hno
        by_cases hjk : j = k
        · subst hjk; exact hun
        · rw [getD_set_ne true hjk] at hun2; exact hun2
      · rw [Array.setIfInBounds_comm _ _ hji]
        exact k3.2.2

/-- Whether all of z wait for i. -/
def waitsB (md : Region.Mode) (ops : Array Oper) (z : Nat → Bool) (i : Nat) : Bool := (List.range ops.size).all fun k => !z k || match ops[k]? with
  | some o => o.after.any fun e => Region.binds md e && e.on == i
  | none => true
theorem waitsB_spec {i : Nat} (h : waitsB md ops z i = true) : ∀ k, z k = true → ∀ oz, ops[k]? = some oz → ∃ e ∈ oz.after, Region.binds md e = true ∧ e.on = i := by
  intro k hk oz ho
  unfold waitsB at h
  rw [List.all_eq_true] at h
  have h2 := h k (List.mem_range.2 (by
    by_cases hh : k < ops.size
    · exact hh
    · rw [Array.getElem?_eq_none (Nat.le_of_not_lt hh)] at ho; cases ho))
  rw [hk, ho] at h2
  simp only [Bool.not_true, Bool.false_or] at h2
  rw [← Array.any_toList, List.any_eq_true] at h2
  obtain ⟨e, he, hb⟩ := h2
  rw [Bool.and_eq_true, beq_iff_eq] at hb
  exact ⟨e, Array.mem_toList_iff.1 he, hb.1, hb.2⟩
theorem T_take {i : Nat} {oi : Oper} {v : Value} {f : Nat} {listed : Array Bool} {a : Act} {w : World} (hi : ops[i]? = some oi) (hs : Region.noSelect ops = true) (hf : Region.free md ops listed i = true) (hr : (Region.ready md ops listed).contains i = true) (hz : waitsB md ops z i = true)
    (hQ : ∀ c a w, Q (.panic c) (a.put oi.dst v) w → Q (.panic c) a w) (hS : S w) (hw : Region.wanted oi (yielded ops a.tmps) = true) (hy : ∀ w, S w → (execOp a.eval oi).run P w = .ok (.value v) w)
    (h : wpAnyT P md ops Q S z f (listed.setIfInBounds i true) (a.put oi.dst v) w) : wpAnyT P md ops Q S z (f + 1) listed a w :=
  T_first hi (Region.noSelect_spec hs) hQ (waitsB_spec hz) f listed a w (Region.free_spec hi hf) (by simpa using hr) (.inl ⟨hw, hy⟩) hS h
/-- Number i of z may be taken first, if it yields in whatever world. -/
theorem T_anyfirst {i : Nat} {oi : Oper} {v : Value} (hi : ops[i]? = some oi) (hsel : ∀ (j : Nat) (o : Oper) cs b, ops[j]? = some o → o.op ≠ .select cs b)
    (hQ : ∀ c a w, Q (.panic c) (a.put oi.dst v) w → Q (.panic c) a w) (hzi : z i = true) :
    ∀ (f : Nat) (listed : Array Bool) (a : Act) (w : World),
      (∀ j oj, ops[j]? = some oj → j ≠ i → listed.getD j true = false → (∀ e ∈ oj.after, Region.binds md e = true → e.on ≠ i) → oi.apart ops oj = true) →
      i ∈ Region.ready md ops listed → YieldsIf P ops (fun _ => True) oi v a →
      wpAnyT P md ops Q S z f (listed.setIfInBounds i true) (a.put oi.dst v) w → wpAnyT P md ops Q S z (f + 1) listed a w := by
  intro f
  induction f with
  | zero =>
    intro listed a w _ hr hy H
    refine ⟨fun h => (by rw [h] at hr; cases hr), fun j hj => ?_⟩
    by_cases hji : j = i
    · subst hji
      exact hy.wpOp hi trivial ⟨fun e => (by rw [hzi] at e; cases e), H⟩
    · have hm := ready_mono hj hji
      rw [H.1] at hm
      cases hm
  | succ f ih =>
    intro listed a w hap hr hy H
    refine ⟨fun h => (by rw [h] at hr; cases hr), fun j hj => ?_⟩
    by_cases hji : j = i
    · subst hji
      exact hy.wpOp hi trivial ⟨fun e => (by rw [hzi] at e; cases e), H⟩
    · have k1 := H.2 j (ready_mono hj hji)
      obtain ⟨hun, oj, hoj, hall⟩ := mem_ready.1 hj
      have hwait : ∀ e ∈ oj.after, Region.binds md e = true → e.on ≠ i := fun e he hb heq => by
        have g1 := hall e he hb
        have g0 := (mem_ready.1 hr).1
        rw [heq] at g1
        by_cases hlt : i < listed.size
        · simp [hlt] at g0 g1
          rw [g0] at g1
          cases g1
        · simp [Array.getElem?_eq_none (Nat.le_of_not_lt hlt)] at g1
      have k2 := wpOp_putIf hoj (hap j oj hoj hji hun hwait) (fun cs b => hsel i oi cs b hi) (fun cs b => hsel j oj cs b hoj) hQ hy k1
      refine wpOp_mono (fun a' w' k3 => ⟨k3.2.1, ih (listed.setIfInBounds j true) a' w' ?_ (ready_mono hr (Ne.symm hji)) k3.1 ?_⟩) k2
      · intro k ok hk hki hun2 hno
        refine hap k ok hk hki ?_ hno
        by_cases hjk : j = k
        · subst hjk; exact hun
        · rw [getD_set_ne true hjk] at hun2; exact hun2
      · rw [Array.setIfInBounds_comm _ _ hji]
        exact k3.2.2
theorem T_anytake {i : Nat} {oi : Oper} {v : Value} {f : Nat} {listed : Array Bool} {a : Act} {w : World} (hi : ops[i]? = some oi) (hs : Region.noSelect ops = true) (hf : Region.free md ops listed i = true) (hr : (Region.ready md ops listed).contains i = true) (hzi : z i = true)
    (hQ : ∀ c a w, Q (.panic c) (a.put oi.dst v) w → Q (.panic c) a w) (hw : Region.wanted oi (yielded ops a.tmps) = true) (hy : ∀ w, (execOp a.eval oi).run P w = .ok (.value v) w)
    (h : wpAnyT P md ops Q S z f (listed.setIfInBounds i true) (a.put oi.dst v) w) : wpAnyT P md ops Q S z (f + 1) listed a w :=
  T_anyfirst hi (Region.noSelect_spec hs) hQ hzi f listed a w (Region.free_spec hi hf) (by simpa using hr) (.inl ⟨hw, fun w _ => hy w⟩) h
/-- Number i alone may come up. -/
theorem T_step {i : Nat} {oi : Oper} {f : Nat} {listed : Array Bool} {a : Act} {w : World} (hi : ops[i]? = some oi) (hr : Region.ready md ops listed = [i]) (hiz : z i = false) (hw : Region.wanted oi (yielded ops a.tmps) = true)
    (h : ∀ K : Act → World → Prop, Shut (∀ a' w', S w' → wpAnyT P md ops Q S z f (listed.setIfInBounds i true) a' w' → K a' w') → Oper.wp P oi a w K Q) : wpAnyT P md ops Q S z (f + 1) listed a w := by
  refine ⟨fun h0 => (by rw [hr] at h0; cases h0), fun j hj => ?_⟩
  rw [hr] at hj
  obtain rfl := List.mem_singleton.1 hj
  unfold wpOp
  simp only [hi, hw, if_true]
  exact .inl (h _ (fun a' w' k1 k2 => ⟨fun _ => k1, k2⟩))
/-- Number i of z alone may come up: S may fall. -/
theorem T_free {i : Nat} {oi : Oper} {f : Nat} {listed : Array Bool} {a : Act} {w : World} (hi : ops[i]? = some oi) (hr : Region.ready md ops listed = [i]) (hiz : z i = true) (hw : Region.wanted oi (yielded ops a.tmps) = true)
    (h : ∀ K : Act → World → Prop, Shut (∀ a' w', wpAnyT P md ops Q S z f (listed.setIfInBounds i true) a' w' → K a' w') → Oper.wp P oi a w K Q) : wpAnyT P md ops Q S z (f + 1) listed a w := by
  refine ⟨fun h0 => (by rw [hr] at h0; cases h0), fun j hj => ?_⟩
  rw [hr] at hj
  obtain rfl := List.mem_singleton.1 hj
  unfold wpOp
  simp only [hi, hw, if_true]
  exact .inl (h _ (fun a' w' k => ⟨fun e => (by rw [hiz] at e; cases e), k⟩))
/-- The last one, of z. -/
theorem T_last {i : Nat} {oi : Oper} {f : Nat} {listed : Array Bool} {a : Act} {w : World} (hi : ops[i]? = some oi) (hr : Region.ready md ops listed = [i]) (hr2 : Region.ready md ops (listed.setIfInBounds i true) = []) (hiz : z i = true) (hw : Region.wanted oi (yielded ops a.tmps) = true)
    (h : Oper.wp P oi a w (fun a' w' => Q .normal a' w') Q) : wpAnyT P md ops Q S z (f + 1) listed a w := by
  refine ⟨fun h0 => (by rw [hr] at h0; cases h0), fun j hj => ?_⟩
  rw [hr] at hj
  obtain rfl := List.mem_singleton.1 hj
  unfold wpOp
  simp only [hi, hw, if_true]
  refine .inl (Oper.wp_mono (fun a' w' k => ⟨fun e => (by rw [hiz] at e; cases e), ?_⟩) h)
  cases f with
  | zero => exact ⟨hr2, k⟩
  | succ f => exact ⟨fun _ => k, by rw [hr2]; simp⟩
/-- The beginning. -/
theorem T_begin {id : Nat} {a : Act} {w : World} (hm : P.follows .mixedOrders = true) (h : wpAnyT P .any ops Q S z ops.size (Array.replicate ops.size false) a w.drew) : (Code.region id ops true).wp P Q a w :=
  wp_region_any hm (any_of_T _ _ _ _ h)
end
end Go.Proofs.YtflkalgofkpdbaaDoor
/- The model's text of a region. -/
namespace Go.Proofs.YtflkalgofkpdbaaDoor
open Go.RowKit Go.Lib

theorem keepF3' {w W : World} {p q r : Addr} {x y z : Value} (h1 : W.cell? p = some x) (h2 : W.cell? q = some y) (h4 : W.cell? r = some z) (h3 : Below w.heap.size w W) : W.drew.cell? p = some x ∧ W.drew.cell? q = some y ∧ W.drew.cell? r = some z ∧ Below w.heap.size w W.drew := ⟨h1, h2, h4, h3.drew⟩
theorem keepE3' {w W w1 : World} {p q r : Addr} {x y z : Value} (hp : p.block < w.heap.size) (hq : q.block < w.heap.size) (hr : r.block < w.heap.size) (h1 : W.cell? p = some x) (h2 : W.cell? q = some y) (h4 : W.cell? r = some z) (h3 : Below w.heap.size w W) (hb : Below W.heap.size W w1) :
    w1.cell? p = some x ∧ w1.cell? q = some y ∧ w1.cell? r = some z ∧ Below w.heap.size w w1 :=
  ⟨(hb.cell (Nat.lt_of_lt_of_le hp h3.size)).trans h1, (hb.cell (Nat.lt_of_lt_of_le hq h3.size)).trans h2, (hb.cell (Nat.lt_of_lt_of_le hr h3.size)).trans h4, h3.trans (hb.mono h3.size)⟩
theorem str_step {s : ByteArray} {l t m : List UInt8} (hs : s.data.toList = l) : (s ++ ⟨#[59]⟩ ++ ⟨t.toArray⟩ ++ ⟨#[60]⟩ ++ ⟨m.toArray⟩ : ByteArray) = ⟨(l ++ 59 :: (t ++ 60 :: m)).toArray⟩ := by
  refine ByteArray.ext (Array.toList_inj.1 ?_)
  simp [hs]

set_option maxRecDepth 100000 in
set_option maxHeartbeats 1600000 in
theorem s_regtext (r : Rgn) (v : Value) (w : World) (hv : Rg w v r) :
    Calls Tryd.prog 6 #[v] w (Quiet w (.string ⟨(regT r.1 r.2).toArray⟩)) := by
  have HR := Lib.hid hv
  obtain ⟨n, hs'⟩ := r
  obtain ⟨u, rfl, hss⟩ := hv
  simp only at hss ⊢
  have HV := Lib.hid hss
  obtain ⟨p, c, rfl, hm⟩ := hss.shape
  unfold maxLen at hm
  have K := Lib.hid (Bk.new w #[.int .i64 n, .slice p hs'.length c] 29)
  have B0 := Lib.hid (below1 w (.cells #[.int .i64 n, .slice p hs'.length c] 29))
  clear hss
  by_cases c1 : regOk n hs' = true
  case neg =>
    have C1 := Lib.hid (bool_f c1)
    have E := Lib.hid (show regT n hs' = [] from if_neg c1)
    clear c1
    go_enter Tryd.func6, Tryd.ntmps6
    go_wp2_with fail
    refine (s_isreg (n, hs') _ _ (HR.out.below B0.out)).mono ?_
    rintro e w1 ⟨rfl, hb⟩
    rw [show regOk (n, hs').1 (n, hs').2 = false from C1.out]
    have B1 := Lib.hid (B0.out.trans (hb.mono B0.out.size))
    clear hb
    go_wp2_with fail
    go_ret
    exact ⟨ret_str E.out.symm, B1.out⟩
  have C1 := Lib.hid c1
  have E := Lib.hid (show regT n hs' = regTx n hs' from if_pos c1)
  obtain ⟨r1, r2, r3, r4⟩ := regOk_t c1
  have HH := Lib.hid (fun (k : Nat) (hk : k < hs'.length) => halfOk_tx (r4 k hk))
  have HL := Lib.hid (fun (k : Nat) => show (regTx n (hs'.take k)).length ≤ 21 + 100 * 8 by
    have h := regTx_len n (hs'.take k) (fun h hh => by obtain ⟨i, hi, rfl⟩ := List.mem_iff_getElem.1 (List.mem_of_mem_take hh); exact halfOk_tx (r4 i hi)) (by omega) (by omega)
    have h2 : (hs'.take k).length ≤ 8 := by rw [List.length_take]; omega
    omega)
  clear c1 r4
  go_enter Tryd.func6, Tryd.ntmps6
  go_wp2_with fail
  refine (s_isreg (n, hs') _ _ (HR.out.below B0.out)).mono ?_
  rintro e w1 ⟨rfl, hb⟩
  rw [show regOk (n, hs').1 (n, hs').2 = true from C1.out]
  have B1 := Lib.hid (B0.out.trans (hb.mono B0.out.size))
  have K1 := Lib.hid (K.out.below hb)
  clear hb
  obtain ⟨⟨l0, l1⟩, -⟩ := K1.out.two
  go_wp2_with fail
  refine (fi_any n (by omega) (by omega) _).mono ?_
  rintro e w2 ⟨rfl, hb⟩
  have B2 := Lib.hid (B1.out.trans (hb.mono B1.out.size))
  have K2 := Lib.hid (K1.out.below hb)
  have Z2 := Lib.hid K2.out.lt
  clear hb l0 l1
  go_wp2
  go_loopw [3, 4] (fun o i wr => ∃ (k : Nat) (s : ByteArray), k ≤ hs'.length ∧ i = .int .i64 k ∧ o = .string s ∧ s.data.toList = regTx n (hs'.take k) ∧ Below w2.heap.size w2 wr) (fun _ i _ => hs'.length - (RowKit.intOf i).toNat)
  case atStart => exact ⟨0, _, Nat.zero_le _, rfl, rfl, by simp [regTx, regL], Below.refl _ _⟩
  case round =>
    obtain ⟨k, s, hk, rfl, rfl, ht, hbr⟩ := hrel
    have HT := Lib.hid ht
    have HA := Lib.hid (B2.out.trans (hbr.mono B2.out.size))
    have hsz : s.size ≤ 821 := by have h := HL.out k; rw [← ht, list_len] at h; omega
    obtain ⟨⟨-, l1⟩, -⟩ := (K2.out.below hbr).two
    clear ht
    by_cases hlt : k < hs'.length
    · obtain ⟨b, off, y, rfl, _, hb2, hcell, hcell1, hsx⟩ := HV.out.half k hlt rfl
      rw [← HA.out.cell (p := ⟨b, off + k * 2, none⟩) hb2] at hcell
      rw [← HA.out.cell (p := ⟨b, off + k * 2 + 1, none⟩) hb2] at hcell1
      have HX := Lib.hid hsx
      have i1 : (0 : Int) ≤ (k : Int) := by omega
      have i2 : (k : Int) < (hs'.length : Int) := by omega
      have hb3 : b < w2.heap.size := Nat.lt_of_lt_of_le hb2 B2.out.size
      have hb4 := Z2.out
      have HK := Lib.hid (HH.out k hlt)
      have HTT := Lib.hid (regTx_take (n := n) hlt)
      obtain ⟨t1, ht1⟩ : ∃ q : ByteArray, (⟨(textL hs'[k].1).toArray⟩ : ByteArray) = q := ⟨_, rfl⟩
      obtain ⟨t2, ht2⟩ : ∃ q : ByteArray, (⟨(itoa hs'[k].2).toArray⟩ : ByteArray) = q := ⟨_, rfl⟩
      have hz1 : t1.size ≤ 66 := by have h := textL_len _ HK.out.2.1; have h3 := HK.out.1; rw [← ht1]; show (textL hs'[k].1).toArray.size ≤ 66; simp only [List.size_toArray]; omega
      have hz2 : t2.size ≤ 21 := by rw [← ht2]; exact numeral_size _ HK.out.2.2.1 HK.out.2.2.2
      have HT1 := Lib.hid ht1
      have HT2 := Lib.hid ht2
      clear hsx ht1 ht2
      go_wp2_with fail
      refine T_begin (z := fun k => 18 < k) (S := fun (w' : World) => w'.cell? ⟨w.heap.size, 1, none⟩ = some (.slice (some ⟨b, off, none⟩) hs'.length c) ∧ w'.cell? ⟨b, off + k * 2, none⟩ = some y ∧ w'.cell? ⟨b, off + k * 2 + 1, none⟩ = some (.int .i64 hs'[k].2)) (by kernel_rfl) ?_
      show wpAnyT _ _ _ _ _ _ 20 _ _ _
      have hS0 := Lib.hid (show (fun (w' : World) => w'.cell? ⟨w.heap.size, 1, none⟩ = some (.slice (some ⟨b, off, none⟩) hs'.length c) ∧ w'.cell? ⟨b, off + k * 2, none⟩ = some y ∧ w'.cell? ⟨b, off + k * 2 + 1, none⟩ = some (.int .i64 hs'[k].2)) _ from ⟨l1, hcell, hcell1⟩)
      refine T_take (i := 0) (v := .string s) rfl (by kernel_rfl) (by kernel_rfl) (by kernel_rfl) (by kernel_rfl) (fun _ _ _ h => h) hS0.out rfl (fun w' hS' => by (try dsimp only at hS'); go_simp) ?_
      refine T_take (i := 2) (v := .pointer (some ⟨w.heap.size, 1, none⟩)) rfl (by kernel_rfl) (by kernel_rfl) (by kernel_rfl) (by kernel_rfl) (fun _ _ _ h => h) hS0.out rfl (fun w' hS' => by (try dsimp only at hS'); go_simp) ?_
      refine T_take (i := 3) (v := .slice (some ⟨b, off, none⟩) hs'.length c) rfl (by kernel_rfl) (by kernel_rfl) (by kernel_rfl) (by kernel_rfl) (fun _ _ _ h => h) hS0.out rfl (fun w' hS' => by (try dsimp only at hS'); go_simp) ?_
      refine T_take (i := 4) (v := .int .i64 k) rfl (by kernel_rfl) (by kernel_rfl) (by kernel_rfl) (by kernel_rfl) (fun _ _ _ h => h) hS0.out rfl (fun w' hS' => by (try dsimp only at hS'); go_simp) ?_
      refine T_take (i := 5) (v := .pointer (some ⟨b, off + k * 2, none⟩)) rfl (by kernel_rfl) (by kernel_rfl) (by kernel_rfl) (by kernel_rfl) (fun _ _ _ h => h) hS0.out rfl (fun w' hS' => by (try dsimp only at hS'); go_simp) ?_
      refine T_take (i := 6) (v := .pointer (some ⟨b, off + k * 2, none⟩)) rfl (by kernel_rfl) (by kernel_rfl) (by kernel_rfl) (by kernel_rfl) (fun _ _ _ h => h) hS0.out rfl (fun w' hS' => by (try dsimp only at hS'); go_simp) ?_
      refine T_take (i := 7) (v := y) rfl (by kernel_rfl) (by kernel_rfl) (by kernel_rfl) (by kernel_rfl) (fun _ _ _ h => h) hS0.out rfl (fun w' hS' => by (try dsimp only at hS'); go_simp) ?_
      refine T_take (i := 11) (v := .pointer (some ⟨w.heap.size, 1, none⟩)) rfl (by kernel_rfl) (by kernel_rfl) (by kernel_rfl) (by kernel_rfl) (fun _ _ _ h => h) hS0.out rfl (fun w' hS' => by (try dsimp only at hS'); go_simp) ?_
      refine T_take (i := 12) (v := .slice (some ⟨b, off, none⟩) hs'.length c) rfl (by kernel_rfl) (by kernel_rfl) (by kernel_rfl) (by kernel_rfl) (fun _ _ _ h => h) hS0.out rfl (fun w' hS' => by (try dsimp only at hS'); go_simp) ?_
      refine T_take (i := 13) (v := .int .i64 k) rfl (by kernel_rfl) (by kernel_rfl) (by kernel_rfl) (by kernel_rfl) (fun _ _ _ h => h) hS0.out rfl (fun w' hS' => by (try dsimp only at hS'); go_simp) ?_
      refine T_take (i := 14) (v := .pointer (some ⟨b, off + k * 2, none⟩)) rfl (by kernel_rfl) (by kernel_rfl) (by kernel_rfl) (by kernel_rfl) (fun _ _ _ h => h) hS0.out rfl (fun w' hS' => by (try dsimp only at hS'); go_simp) ?_
      refine T_take (i := 15) (v := .pointer (some ⟨b, off + k * 2 + 1, none⟩)) rfl (by kernel_rfl) (by kernel_rfl) (by kernel_rfl) (by kernel_rfl) (fun _ _ _ h => h) hS0.out rfl (fun w' hS' => by (try dsimp only at hS'); go_simp) ?_
      refine T_take (i := 16) (v := .int .i64 hs'[k].2) rfl (by kernel_rfl) (by kernel_rfl) (by kernel_rfl) (by kernel_rfl) (fun _ _ _ h => h) hS0.out rfl (fun w' hS' => by (try dsimp only at hS'); go_simp) ?_
      refine T_take (i := 1) (v := .string (s ++ ⟨#[59]⟩)) rfl (by kernel_rfl) (by kernel_rfl) (by kernel_rfl) (by kernel_rfl) (fun _ _ _ h => h) hS0.out rfl (fun w' hS' => by go_simp; omega) ?_
      refine T_step (i := 8) rfl (by kernel_rfl) rfl rfl ?_
      intro K hK
      go_simp
      refine (s_l2text hs'[k].1 HK.out.2.1 (by have := HK.out.1; omega) _ _ (HX.out.below HA.out.drew)).mono ?_
      rintro e w3 ⟨rfl, hb1⟩
      rw [HT1.out]
      have hb1 : Below wr.heap.size wr w3 := (Below.refl _ _).drew.trans hb1
      have s1 := show (fun (w' : World) => w'.cell? ⟨w.heap.size, 1, none⟩ = some (.slice (some ⟨b, off, none⟩) hs'.length c) ∧ w'.cell? ⟨b, off + k * 2, none⟩ = some y ∧ w'.cell? ⟨b, off + k * 2 + 1, none⟩ = some (.int .i64 hs'[k].2)) w3 from ⟨(hb1.cell (p := ⟨w.heap.size, 1, none⟩) (Nat.lt_of_lt_of_le hb4 hbr.size)).trans l1, (hb1.cell (p := ⟨b, off + k * 2, none⟩) (Nat.lt_of_lt_of_le hb3 hbr.size)).trans hcell, (hb1.cell (p := ⟨b, off + k * 2 + 1, none⟩) (Nat.lt_of_lt_of_le hb3 hbr.size)).trans hcell1⟩
      have HB3 := Lib.hid hb1
      clear hb1 hS0
      refine hK.out _ _ s1 ?_
      clear hK K
      have hS1 := Lib.hid s1
      clear s1
      refine T_take (i := 9) (v := .string (s ++ ⟨#[59]⟩ ++ t1)) rfl (by kernel_rfl) (by kernel_rfl) (by kernel_rfl) (by kernel_rfl) (fun _ _ _ h => h) hS1.out rfl (fun w' hS' => by go_simp; omega) ?_
      refine T_take (i := 10) (v := .string (s ++ ⟨#[59]⟩ ++ t1 ++ ⟨#[60]⟩)) rfl (by kernel_rfl) (by kernel_rfl) (by kernel_rfl) (by kernel_rfl) (fun _ _ _ h => h) hS1.out rfl (fun w' hS' => by go_simp; omega) ?_
      refine T_step (i := 17) rfl (by kernel_rfl) rfl rfl ?_
      intro K hK
      go_simp
      refine (fi_any hs'[k].2 HK.out.2.2.1 HK.out.2.2.2 _).mono ?_
      rintro e w4 ⟨rfl, hb1⟩
      rw [HT2.out]
      have s2 := show (fun (w' : World) => w'.cell? ⟨w.heap.size, 1, none⟩ = some (.slice (some ⟨b, off, none⟩) hs'.length c) ∧ w'.cell? ⟨b, off + k * 2, none⟩ = some y ∧ w'.cell? ⟨b, off + k * 2 + 1, none⟩ = some (.int .i64 hs'[k].2)) w4 from ⟨((HB3.out.trans (hb1.mono HB3.out.size)).cell (p := ⟨w.heap.size, 1, none⟩) (Nat.lt_of_lt_of_le hb4 hbr.size)).trans l1, ((HB3.out.trans (hb1.mono HB3.out.size)).cell (p := ⟨b, off + k * 2, none⟩) (Nat.lt_of_lt_of_le hb3 hbr.size)).trans hcell, ((HB3.out.trans (hb1.mono HB3.out.size)).cell (p := ⟨b, off + k * 2 + 1, none⟩) (Nat.lt_of_lt_of_le hb3 hbr.size)).trans hcell1⟩
      have HB1 := Lib.hid (show Below w2.heap.size w2 w4 from hbr.trans ((HB3.out.trans (hb1.mono HB3.out.size)).mono hbr.size))
      clear hb1 hS1 hbr l1 hcell hcell1
      refine hK.out _ _ s2 ?_
      clear hK K
      have hS2 := Lib.hid s2
      clear s2
      refine T_take (i := 18) (v := .string (s ++ ⟨#[59]⟩ ++ t1 ++ ⟨#[60]⟩ ++ t2)) rfl (by kernel_rfl) (by kernel_rfl) (by kernel_rfl) (by kernel_rfl) (fun _ _ _ h => h) hS2.out rfl (fun w' hS' => by go_simp; omega) ?_
      refine T_last (i := 19) rfl (by kernel_rfl) (by kernel_rfl) rfl rfl ?_
      go_simp
      go_wp2
      refine ⟨⟨k + 1, _, by omega, by go_num, rfl, ?_, HB1.out⟩, by simp [RowKit.intOf]; omega⟩
      rw [HTT.out, ← HT.out, ← HT1.out, ← HT2.out]
      simp
    · obtain rfl : k = hs'.length := by omega
      have E2 := Lib.hid (show s = ⟨(regT n hs').toArray⟩ by have h := HT.out; rw [List.take_length] at h; rw [E.out]; exact ba_eq h)
      clear hbr
      go_wp2
      go_ret
      exact ⟨congrArg (fun q => Ending.returned (Value.string q)) E2.out, HA.out⟩
end Go.Proofs.YtflkalgofkpdbaaDoor
/- Halves and regions that came in as arguments. -/
namespace Go.Proofs.YtflkalgofkpdbaaDoor
open Go Go.RowKit Go.ChangeShapes Go.WideShapes Go.Deep Go.Joins
theorem agg_snd {x y z t : Value} (h : Value.agg #[x, y] = Value.agg #[z, t]) : y = t := by
  simp only [Value.agg.injEq] at h
  exact Option.some.inj (show some y = some t from congrArg (fun a : Array Value => a[1]?) h)
theorem half_le_tot {hs : List Hf} {k : Nat} (h : k < hs.length) : hs[k].1.length ≤ totN hs := by
  have h1 := totN_take h
  have h2 := totN_take_le hs (k + 1)
  omega
theorem draw_below {w w1 : World} (hb : Below w.drew.heap.size w.drew w1) : Below w.heap.size w w1 := (Below.refl w.heap.size w).drew.trans hb
section
variable {H : Type} {enc : TypeId × Value → H} {P : Program}
theorem hs_of_trod {W : World} {base : Nat} {sp : Nat → Bool} {held : Bool} {t e q : TypeId} {f0 f1 : Field} {fuel : Nat} {v : Value} {x : DataW H × List MemPlace}
    (ht : P.underlying t = some (.slice e)) (he : P.underlying e = some (.struct #[f0, f1])) (ce : P.cellsOf e = 2) (o0 : f0.offset = 0) (o1 : f1.offset = 1) (c0 : P.cellsOf f0.type = 1) (c1 : P.cellsOf f1.type = 1)
    (h0 : P.underlying f0.type = some (.slice q)) (hq : P.underlying q = some (.int .i64)) (cq : P.cellsOf q = 1) (h1 : P.underlying f1.type = some (.int .i64))
    (h : DataW.trod enc P W base sp held fuel t [v] = some x) :
    ∃ hs : List Hf, Hs W v hs ∧ HWf hs := by
  rcases open_slice_pairs ht he ce o0 o1 c0 c1 h with ⟨hcs, _⟩ | ⟨a', len', cap', m, n, V0, V1, D0, D1, P0, P1, hcs, _⟩
  · simp only [List.cons.injEq, and_true] at hcs
    subst hcs
    obtain ⟨hs, _, h2, h3⟩ := halves_came ht he ce o0 o1 c0 c1 h0 hq cq h1 h
    exact ⟨hs, h2, h3⟩
  · simp only [List.cons.injEq, and_true] at hcs
    subst hcs
    obtain ⟨hs, _, h2, h3⟩ := halves_came ht he ce o0 o1 c0 c1 h0 hq cq h1 h
    exact ⟨hs, h2, h3⟩
theorem rg_came {W : World} {base b0 : Nat} {r : Reach} {sp : Nat → Bool} {held : Bool} {R e q : TypeId} {g0 g1 f0 f1 : Field} {v : Value} {d : DataW H} {p : List MemPlace}
    (hR : P.underlying R = some (.struct #[g0, g1])) (hone : oneCellFields P #[g0, g1] = true) (hC : P.cellsOf R = 2) (hi : P.underlying g0.type = some (.int .i64)) (ht : P.underlying g1.type = some (.slice e))
    (he : P.underlying e = some (.struct #[f0, f1])) (ce : P.cellsOf e = 2) (o0 : f0.offset = 0) (o1 : f1.offset = 1) (c0 : P.cellsOf f0.type = 1) (c1 : P.cellsOf f1.type = 1)
    (h0 : P.underlying f0.type = some (.slice q)) (hq : P.underlying q = some (.int .i64)) (cq : P.cellsOf q = 1) (h1 : P.underlying f1.type = some (.int .i64))
    (hv : Value.okWide P W r b0 R v) (h : DataW.Trod enc P W base sp held R v d p) : ∃ z : Rgn, True ∧ Rg W v z ∧ (Lit.int .i64 z.1).wf = true ∧ HWf z.2 := by
  obtain ⟨v0, v1, y0, y1, n, rfl, _, _, k0, k1⟩ := open_agg2 hR hone hC hv h
  obtain ⟨z, e1, _, hw⟩ := DataW.trod_int hi k0
  simp only [List.cons.injEq, and_true] at e1
  obtain ⟨hs, k2, k3⟩ := hs_of_trod ht he ce o0 o1 c0 c1 h0 hq cq h1 k1
  exact ⟨(z, hs), trivial, ⟨v1, by rw [e1], k2⟩, hw, k3⟩
theorem hv_came {W : World} {base b0 : Nat} {r : Reach} {sp : Nat → Bool} {held : Bool} {R q : TypeId} {f0 f1 : Field} {v : Value} {d : DataW H} {p : List MemPlace}
    (hR : P.underlying R = some (.struct #[f0, f1])) (hone : oneCellFields P #[f0, f1] = true) (hC : P.cellsOf R = 2)
    (h0 : P.underlying f0.type = some (.slice q)) (hq : P.underlying q = some (.int .i64)) (cq : P.cellsOf q = 1) (h1 : P.underlying f1.type = some (.int .i64))
    (hv : Value.okWide P W r b0 R v) (h : DataW.Trod enc P W base sp held R v d p) : ∃ z : Hf, True ∧ Hv W v z ∧ (Lit.int .i64 z.2).wf = true := by
  obtain ⟨v0, v1, y0, y1, n, rfl, _, _, k0, k1⟩ := open_agg2 hR hone hC hv h
  obtain ⟨z, e1, _, hw⟩ := DataW.trod_int h1 k1
  simp only [List.cons.injEq, and_true] at e1
  obtain ⟨zs, k2, _⟩ := sl_of_trod h0 hq cq k0
  exact ⟨(zs, z), trivial, ⟨v0, by rw [e1], k2⟩, hw⟩
end
end Go.Proofs.YtflkalgofkpdbaaDoor
/- append at an operation of a region: a half behind halves, numbers behind numbers. -/
namespace Go.Proofs.YtflkalgofkpdbaaDoor
open Go.RowKit Go.Lib

theorem Kept.cellAt {lo hi : Nat} {w w' : World} (h : Kept lo hi w w') {p : Addr} (hp : p.block < w.heap.size) (ho : p.block < lo ∨ hi ≤ p.block) : w'.cell? p = w.cell? p := World.cell?_of_block (h.block p.block hp ho)
theorem Bk.grown {w w' : World} {b : Nat} {cs : Array Value} {T : TypeId} {r : Option Nat} (h : Bk w b cs T) (hg : w.grownBy w' r) (hne : some b ≠ r) : Bk w' b cs T := (hg.block b h.lt hne).trans h
/-- A block of another type is none of the halves' own. -/
theorem OwH.ne {T e R : TypeId} {lo hi B : Nat} {w : World} {v : Value} {hs : List Hf} {cs : Array Value} (h : OwH T e lo hi w v hs) (hB : Bk w B cs R) (h1 : R ≠ T) : some B ≠ v.ownBlock := by
  obtain ⟨us, k1, k2, _⟩ := h
  intro e1
  rcases k2.2 with ⟨rfl, _⟩ | ⟨g, cap, cur, rfl, hg, hh, _⟩
  · cases e1
  · obtain rfl : B = g := by simpa [Value.ownBlock] using e1
    rw [hB] at hh
    simp only [Option.some.injEq, Obj.cells.injEq] at hh
    exact h1 hh.2.1
theorem OwnV.other {e R : TypeId} {lo hi : Nat} {w : World} {v : Value} {xs : List Value} {cs : Array Value} (h : OwnV e lo hi w v xs) {p : Addr} (hB : Bk w p.block cs R) (h1 : R ≠ e) (u : Value) : OwnV e lo hi (w.setCell p u) v xs := by
  rcases h with h | ⟨g, cap, cur, rfl, h2, h3, hb, hr⟩
  · exact .inl h
  · refine .inr ⟨g, cap, cur, rfl, h2, h3, ?_, hr⟩
    rw [Below.heap_setCell _ _ _ _ (fun e1 => by
      subst e1
      rw [hB] at hb
      simp only [Option.some.injEq, Obj.cells.injEq] at hb
      exact h1 hb.2.1)]
    exact hb
/-- A store into a block of another type. -/
theorem OwH.other {T e R : TypeId} {lo hi : Nat} {w : World} {v : Value} {hs : List Hf} {cs : Array Value} (h : OwH T e lo hi w v hs) {p : Addr} (hB : Bk w p.block cs R) (h1 : R ≠ T) (h2 : R ≠ e) (u : Value) : OwH T e lo hi (w.setCell p u) v hs := by
  have hne := h.ne hB h1
  obtain ⟨us, k1, k2, k3, k4, k5, k6⟩ := h
  refine ⟨us, k1, ⟨k2.1, ?_⟩, k3, fun i x y hx hy => (k4 i x y hx hy).other hB h2 u, k5, k6⟩
  rcases k2.2 with h0 | ⟨g, cap, cur, rfl, hg, hh, hr⟩
  · exact .inl h0
  · exact .inr ⟨g, cap, cur, rfl, hg, by rw [Below.heap_setCell _ _ _ _ (fun e1 => hne (by rw [← e1]; rfl))]; exact hh, hr⟩
/-- append(halves, half) at an operation. -/
theorem wp_app_half2 {o : Oper} {a : Act} {w : World} {K : Act → World → Prop} {Q : Exit → Act → World → Prop} (s x : Operand)
    (ho : o.op = .call { callee := .builtin .append, args := #[s, x], argTypes := #[27, 27] })
    (base m : Nat) (v u : Value) (hs : List Hf) (h : Hf) (hv : a.eval s = v) (hown : OwH 43 3 base m w v hs) (hu : OwnV 3 m w.heap.size w u (intVals h.1))
    (H : Nat) (hx : a.eval x = .slice (some ⟨H, 0, none⟩) 1 1) (hnew : w.heap[H]? = some (.cells #[u, .int .i64 h.2] 43 (0, 0)))
    (hn : hs.length ≤ 1099511627776) (hbm : base ≤ m) (hm : m ≤ w.heap.size)
    (k : ∀ g cap w', OwH 43 3 base w'.heap.size w' (.slice (some ⟨g, 0, none⟩) (hs.length + 1) cap) (hs ++ [h]) → Kept base m w w' → w.grownBy w' v.ownBlock → K (a.put o.dst (.slice (some ⟨g, 0, none⟩) (hs.length + 1) cap)) w') :
    o.wp Tryd.prog a w K Q := by
  obtain ⟨i0, hi, hz0, hz1, hz2⟩ := info_parts info_half
  have hown' := hown
  obtain ⟨us, h1, h2, h3, h4, h5, h6⟩ := hown
  refine wp_append_lies w s x 27 ho base 43 i0 _ 2 32 Tryd.underlying27 hi hz0 hz1 hz2 rfl (by omega) v hs.length (flat us hs) hv h2 ⟨H, 0, none⟩ 1 1 [u, .int .i64 h.2] hx rfl (World.news_of_block (cs := #[u, .int .i64 h.2]) hnew) (fun q hq => by
      simp only [List.mem_cons, List.not_mem_nil, or_false] at hq
      rcases hq with rfl | rfl
      · exact own_one hu
      · rfl) (by omega) (by unfold maxLen; omega) (by omega) (by omega) w.heap.size rfl ?_
  intro g cap w' k1 k2 k3 k4
  refine k g cap w' ?_ ⟨k2.os, k2.tape, k2.output, k2.size, fun j hj ho => k2.block j hj fun e => ?_⟩ k2
  · refine hown'.snoc hu hbm hm ⟨h1, h2, h4, h5, h6⟩ h3 k1 k2 ?_
    intro b hb
    have hgb : g = b := by simpa [Value.ownBlock] using hb
    subst hgb
    rcases k3 with h | h
    · exact .inl h
    · exact .inr (by omega)
  · have := (h2.lt j e.symm).1
    have := h3 j e.symm
    omega

theorem wp_app_half {o : Oper} {a : Act} {w : World} {K : Act → World → Prop} {Q : Exit → Act → World → Prop} (s x : Operand)
    (ho : o.op = .call { callee := .builtin .append, args := #[s, x], argTypes := #[27, 27] })
    (base m : Nat) (v u : Value) (hs : List Hf) (h : Hf) (hv : a.eval s = v) (hown : OwH 43 3 base m w v hs) (hu : OwnV 3 m w.heap.size w u (intVals h.1))
    (H : Nat) (hx : a.eval x = .slice (some ⟨H, 0, none⟩) 1 1) (hnew : w.heap[H]? = some (.cells #[u, .int .i64 h.2] 43 (0, 0)))
    (hn : hs.length ≤ 1099511627776) (hbm : base ≤ m) (hm : m ≤ w.heap.size)
    (k : ∀ g cap w', OwH 43 3 base w'.heap.size w' (.slice (some ⟨g, 0, none⟩) (hs.length + 1) cap) (hs ++ [h]) → Kept base m w w' → K (a.put o.dst (.slice (some ⟨g, 0, none⟩) (hs.length + 1) cap)) w') :
    o.wp Tryd.prog a w K Q := wp_app_half2 s x ho base m v u hs h hv hown hu H hx hnew hn hbm hm fun g cap w' h1 h2 _ => k g cap w' h1 h2

/-- append(out, ys...) at an operation: the source any slice that reads as a list with a number at least. -/
theorem wp_app_ints {o : Oper} {a : Act} {w : World} {K : Act → World → Prop} {Q : Exit → Act → World → Prop} (s x : Operand)
    (ho : o.op = .call { callee := .builtin .append, args := #[s, x], argTypes := #[41, 41] })
    (base : Nat) (v : Value) (xs ys : List Int) (u : Value) (hs : a.eval s = v) (hown : w.ownsRow base 3 1 v xs.length (intVals xs))
    (hx : a.eval x = u) (hu : Sl w u (intVals ys)) (h0 : 0 < ys.length)
    (hn : xs.length + ys.length ≤ 1099511627776) (hbase : base ≤ w.heap.size)
    (h : ∀ v' w', w'.ownsRow base 3 1 v' (xs ++ ys).length (intVals (xs ++ ys)) → Below base w w' → K (a.put o.dst v') w') : o.wp Tryd.prog a w K Q := by
  obtain ⟨i0, hi, hz0, hz1, hz2⟩ := info_parts info_int'
  have happ : intVals (xs ++ ys) = intVals xs ++ intVals ys := by simp [intVals]
  obtain ⟨ad, c, rfl, _, hopen⟩ := hu.shape
  rw [intVals_len] at hopen hx hu
  obtain ⟨b, off, rfl, hc, hlt, hcell⟩ := hopen h0
  obtain ⟨hl, hc2⟩ := hu.addr
  refine wp_append_own w s x 41 ho base 3 i0 _ 1 8 Tryd.underlying41 hi hz0 hz1 hz2 rfl (by omega) v xs.length _ hs hown ⟨b, off, none⟩ ys.length c (intVals ys) hx (by rw [hl, Nat.mul_one]) hc2 (by intro q hq; obtain ⟨z, _, rfl⟩ := List.mem_map.1 hq; rfl) (by unfold maxLen; omega) (by omega) hbase ?_
  intro v' w' h1 h2 _
  refine h v' w' (by rw [happ, List.length_append]; exact h1) ((Below.refl base w).grown h2 hbase ?_)
  intro k hk
  exact (hown.lt k hk).1
end Go.Proofs.YtflkalgofkpdbaaDoor
/- A region that draws its order and holds a call: its ways meet again behind it. -/
namespace Go.Proofs.YtflkalgofkpdbaaDoor
open Go Go.RowKit

/-- The end of the region: this frame, a world of which S holds. -/
def Meet (b : Act) (S : World → Prop) : Exit → Act → World → Prop
  | .normal, a', w' => a' = b ∧ S w'
  | _, _, _ => False
theorem region_meet {P : Program} {c : Code} {Q : Exit → Act → World → Prop} {a : Act} {w : World} (f : Act → Act) (S : World → Prop) (h1 : ∀ b, Hid (b = f a) → Code.wp P c (Meet b S) a w) (h2 : ∀ w', S w' → Q .normal (f a) w') : Code.wp P c Q a w :=
  Code.wp_mono (fun e a' w' h => by
    cases e <;> first | exact (h : False).elim | exact (show a' = f a from h.1) ▸ h2 w' h.2) (h1 (f a) (Lib.hid rfl))
/-- The world under one name. -/
theorem wgen {P : Program} {c : Code} {Q : Exit → Act → World → Prop} {a : Act} {w : World} (h : ∀ W, W = w → Code.wp P c Q a W) : Code.wp P c Q a w := h w rfl
/-- A row of three places is stored in a world that has grown since. -/
def CutS (W : World) (B o : Nat) (x y z : Int) (wx : World) : Prop := ∃ V, Below W.drew.heap.size W.drew V ∧ wx = ((V.setCell ⟨B, o, none⟩ (.int .i64 x)).setCell ⟨B, o + 1, none⟩ (.int .i64 y)).setCell ⟨B, o + 2, none⟩ (.int .i64 z)
end Go.Proofs.YtflkalgofkpdbaaDoor
/- The model's ParseRegion. -/
namespace Go.Proofs.YtflkalgofkpdbaaDoor
open Go.RowKit Go.Lib

theorem got_mk3 {w : World} {r r' : Rgn × Bool} {e : Ending} {w' : World} (h : r' = r) (g : GotG w r e w') : GotG w r' e w' := by subst h; exact g
/-- What ParseRegion's loop keeps: the region's box, its halves. -/
def PaI (w2 : World) (n : Int) (hs : List Hf) (u : Value) (wr : World) : Prop :=
  Bk wr w2.heap.size #[.int .i64 n, u] 29 ∧ OwH 43 3 (w2.heap.size + 1) wr.heap.size wr u hs ∧ Below w2.heap.size w2 wr ∧ w2.heap.size + 1 ≤ wr.heap.size
theorem cons_parts {l : List ByteArray} (h : 1 ≤ l.length) : ∃ p qs, l = p :: qs := by
  cases l with
  | nil => simp at h
  | cons p qs => exact ⟨p, qs, rfl⟩
theorem cons_get {p : ByteArray} {qs : List ByteArray} {j k : Nat} (hk : k = j + 1) (hj : j < qs.length) : (strVals (p :: qs))[k]? = some (.string qs[j]) := by
  subst hk
  have := strVals_get (p :: qs) (j + 1) (by simp; omega)
  simpa using this
/-- The cells of two strings. -/
theorem two_cells {w : World} {v : Value} {a b : ByteArray} (h : Sl w v (strVals [a, b])) : ∃ q off c, v = .slice (some ⟨q, off, none⟩) 2 c ∧ 2 ≤ c ∧ q < w.heap.size ∧ w.cell? ⟨q, off, none⟩ = some (.string a) ∧ w.cell? ⟨q, off + 1, none⟩ = some (.string b) := by
  obtain ⟨d, c, rfl, _, ho⟩ := h.shape
  obtain ⟨q, off, rfl, h1, h2, h3⟩ := ho (by simp [strVals])
  exact ⟨q, off, c, by simp [strVals], by simpa [strVals] using h1, h2, by simpa using h3 0 _ rfl, h3 1 _ rfl⟩
set_option maxRecDepth 100000 in
set_option maxHeartbeats 3200000 in
theorem s_parsreg (s : ByteArray) (hs : s.size ≤ 1048576) (w : World) :
    Calls Tryd.prog 10 #[.string s] w (GotG w (parsR s.data.toList)) := by
  have HS := Lib.hid (ssplit s 59 hs)
  have hps := parts_size (c := 59) s.data.toList
  have hp1 := parts_some 59 s.data.toList
  have hpn : (parts 59 s.data.toList).length ≤ 1048577 := by
    rw [parts_len]
    have := sp_len_le 59 s.data.toList
    rw [list_len] at this; omega
  have HBK := Lib.hid (fun p qs (e : parts 59 s.data.toList = p :: qs) h1 h2 h3 => parsR_back e h1 h2 h3)
  unfold parsR
  rw [list_len] at hps
  generalize parts 59 s.data.toList = ps at HS hps hp1 hpn HBK ⊢
  obtain ⟨p, qs, rfl⟩ := cons_parts hp1
  have HB0 := Lib.hid (HBK.out p qs rfl)
  clear HBK hp1
  have HP := Lib.hid (show p.size ≤ s.size ∧ ∀ j (h : j < qs.length), qs[j].size ≤ s.size from ⟨hps p (List.mem_cons_self ..), fun j h => hps _ (List.mem_cons_of_mem _ (List.getElem_mem h))⟩)
  have hqn : qs.length ≤ 1048576 := by simpa using hpn
  clear hps hpn
  have K0 := Lib.hid (Bk.new w #[.int .i64 0, .slice none 0 0] 29)
  have B0 := Lib.hid (below1 w (.cells #[.int .i64 0, .slice none 0 0] 29))
  have HR0 := Lib.hid (s_readI p (by have := HP.out.1; unfold maxLen; omega))
  generalize hq : rdI p.data.toList = q at HR0
  have HQ0 := Lib.hid (show rdS p = q from hq)
  clear hq
  obtain ⟨n, okb⟩ := q
  go_enter Tryd.func10, Tryd.ntmps10
  go_wp2_with fail
  refine (HS.out _).mono ?_
  rintro e w1 ⟨⟨v1, rfl, ho1⟩, hb1⟩
  have B1 := Lib.hid (B0.out.trans (hb1.mono B0.out.size))
  have K1 := Lib.hid (K0.out.below hb1)
  have hsl := Sl.of_owns ho1
  obtain ⟨a, c, rfl, hm, hopen⟩ := hsl.shape
  rw [strVals_len, List.length_cons] at hm hopen hsl
  rw [strVals_len, List.length_cons]
  obtain ⟨bb, off, rfl, hc, hlt1, hx⟩ := hopen (by omega)
  have c0 := hx 0 _ (strVals_get (p :: qs) 0 (by simp))
  rw [Nat.add_zero, List.getElem_cons_zero] at c0
  have HS1 := Lib.hid hsl
  have HC := Lib.hid (And.intro hc hm)
  clear ho1 hb1 hsl hopen hx hm
  go_wp2_with fail
  refine (HR0.out _).mono ?_
  rintro e w2 ⟨rfl, hb2⟩
  have B2 := Lib.hid (B1.out.trans (hb2.mono B1.out.size))
  have K2 := Lib.hid (K1.out.below hb2)
  have HS2 := Lib.hid (HS1.out.below hb2)
  clear hb2 c0 hlt1
  have HW3 := Lib.hid (show ∀ W, W = w2.alloc (.cells #[.int .i64 n, .slice none 0 0] 29) → PaI w2 n [] (.slice none 0 0) W by
    intro W hW
    subst hW
    exact ⟨Bk.new w2 _ _, OwH.nil, below1 w2 _, by simp⟩)
  go_wp2_with fail
  refine wgen ?_
  intro W3 hW3
  have P3 := Lib.hid (HW3.out W3 hW3)
  clear hW3 HW3
  go_loopw [8] (fun i wr => ∃ (k : Nat) (u : Value), k ≤ qs.length ∧ i = .int .i64 ((k + 1 : Nat) : Int) ∧ hsOk (qs.take k) = true ∧ PaI w2 n (hsL (qs.take k)) u wr) (fun i _ => qs.length + 1 - (RowKit.intOf i).toNat)
  case atStart => exact ⟨0, _, Nat.zero_le _, rfl, rfl, P3.out⟩
  case round =>
    obtain ⟨k, u, hk, rfl, hok, hpa⟩ := hrel
    have HK := Lib.hid hok
    have HP3 := Lib.hid hpa
    obtain ⟨ua, uc, rfl, hum⟩ := hpa.2.1.hs.shape
    rw [hsL_len, show (qs.take k).length = k by rw [List.length_take]; omega] at HP3
    clear hok hpa hum
    by_cases hlt : k < qs.length
    · obtain ⟨d', c', e', hm', hopen⟩ := (HS2.out.below HP3.out.2.2.1).shape
      rw [strVals_len, List.length_cons] at e' hopen
      obtain ⟨b', off', rfl, hc', hlt1, hx⟩ := hopen (by omega)
      simp only [Value.slice.injEq, Option.some.injEq, Addr.mk.injEq] at e'
      obtain ⟨⟨rfl, rfl, -⟩, -, rfl⟩ := e'
      have hcell := hx (k + 1) _ (cons_get rfl hlt)
      have i1 : (0 : Int) ≤ ((k + 1 : Nat) : Int) := by omega
      have i2 : ((k + 1 : Nat) : Int) < ((qs.length + 1 : Nat) : Int) := by omega
      have hz := HP.out.2 k hlt
      have HS3 := Lib.hid (ssplit qs[k] 60 (by omega))
      have hsz := parts_size (c := 60) qs[k].data.toList
      have HTK := Lib.hid (hsL_take hlt)
      have HE := Lib.hid (show parsH qs[k] = parsH2 (parts 60 qs[k].data.toList) from rfl)
      have HN := Lib.hid (fun h => hsOk_not hlt h)
      have HY := Lib.hid (fun h => hsOk_take hlt HK.out h)
      rw [HE.out] at HTK HN HY
      clear HE hx hopen hm' hc'
      generalize parts 60 qs[k].data.toList = xs at HS3 hsz HTK HN HY
      by_cases h2 : xs.length = 2
      · obtain ⟨a, b, rfl⟩ := two_of h2
        have hza := hsz a (by simp)
        have hzb := hsz b (by simp)
        rw [list_len] at hza hzb
        have HA := Lib.hid (s_pars a (by omega))
        have HB := Lib.hid (s_readI b (by unfold maxLen; omega))
        have HX := Lib.hid (parsH2_f1 (a := a) (b := b))
        have HX2 := Lib.hid (parsH2_f2 (a := a) (b := b))
        have HX3 := Lib.hid (parsH2_t (a := a) (b := b))
        unfold rdS at HX2 HX3
        generalize hv1 : parsV a.data.toList = V1 at HA HX HX3
        generalize hv2 : rdI b.data.toList = V2 at HB HX2 HX3
        clear hv1 hv2 hsz hza hzb h2
        obtain ⟨l1, o1⟩ := V1
        obtain ⟨n2, o2⟩ := V2
        simp only [Bool.false_eq_true] at HX HX2 HX3
        go_wp2_with fail
        refine (HS3.out _).mono ?_
        rintro e w4 ⟨⟨v4, rfl, ho4⟩, hb4⟩
        have B4 := Lib.hid (HP3.out.2.2.1.trans (hb4.mono HP3.out.2.2.1.size))
        have HZ4 := Lib.hid hb4.size
        have PB4 := Lib.hid (And.intro (HP3.out.1.below hb4) (HP3.out.2.1.below hb4))
        have HSL := Lib.hid (Sl.of_owns ho4)
        clear ho4 hb4
        obtain ⟨q, off2, c2, rfl, hc2, hq2, ca, cb⟩ := two_cells HSL.out
        clear hc2
        go_wp2_with fail
        refine (HA.out _).mono ?_
        rintro e w5 ⟨⟨v5, rfl, ho5⟩, hb5⟩
        have cb5 := (hb5.cell (p := ⟨q, off2 + 1, none⟩) hq2).trans cb
        have hq5 := Nat.lt_of_lt_of_le hq2 hb5.size
        have B5 := Lib.hid (B4.out.trans (hb5.mono B4.out.size))
        have PB5 := Lib.hid (And.intro (PB4.out.1.below hb5) (PB4.out.2.below hb5))
        have HO5 := Lib.hid ho5
        have HZ45 := Lib.hid hb5.size
        obtain ⟨a5, c5, rfl, hm5⟩ := ho5.shape1
        rw [intVals_len] at hm5 HO5 ⊢
        clear ho5 hb5 ca cb
        go_wp2_with fail
        refine (HB.out _).mono ?_
        rintro e w6 ⟨rfl, hb6⟩
        have B6 := Lib.hid (B5.out.trans (hb6.mono B5.out.size))
        have HZ6 := Lib.hid hb6.size
        have HZ5 := Lib.hid B5.out.size
        have PB6 := Lib.hid (And.intro (PB5.out.1.below hb6) (PB5.out.2.below hb6))
        have HO6 := Lib.hid ((HO5.out.below hb6).mono (Nat.le_refl _) hb6.size)
        have K6 := Lib.hid (K2.out.below B6.out)
        clear hb6 cb5
        by_cases hoo : o1 = true ∧ o2 = true
        · obtain ⟨rfl, rfl⟩ := hoo
          have HX4 := Lib.hid (HX3.out rfl rfl)
          rw [HX4.out] at HTK HY
          have HLN := Lib.hid (show (hsL (qs.take k)).length = k by rw [hsL_len, List.length_take]; omega)
          have hnb := below1 w6 (.cells #[.slice a5 l1.length c5, .int .i64 n2] 43)
          have PK7 := Lib.hid (PB6.out.1.below hnb)
          have PO7 := Lib.hid (PB6.out.2.below hnb)
          have PU7 := Lib.hid (((HO6.out.mono (lo' := wr.heap.size) HZ4.out (Nat.le_refl _)).below hnb).mono (Nat.le_refl _) hnb.size)
          have HB7 := Lib.hid (B6.out.trans (hnb.mono B6.out.size))
          have HW7 := Lib.hid (show wr.heap.size ≤ (w6.alloc (.cells #[.slice a5 l1.length c5, .int .i64 n2] 43)).heap.size from Nat.le_trans HZ4.out (Nat.le_trans HZ45.out (Nat.le_trans HZ6.out hnb.size)))
          have HZW := Lib.hid HP3.out.2.2.2
          clear hnb
          obtain ⟨⟨-, q1⟩, -, qf1⟩ := PB6.out.1.two
          clear B4 HB0 HS3 HA HB HX HX2 HX3 HN
          go_wp2_with (at_builtin; refine list_app_half rfl _ _ rfl (w2.heap.size + 1) wr.heap.size _ _ (hsL (qs.take k)) (l1, n2) rfl PO7.out PU7.out w6.heap.size rfl (heap_alloc_new w6 _) (by rw [HLN.out]; omega) HZW.out HW7.out ?_; intro g7 cap7 w7 ho7 hb7 hd7 hg7; have PK8 := Lib.hid (PK7.out.since hb7 (Nat.lt_succ_self _)); have HO8 := Lib.hid ho7; have HB8 := Lib.hid (HB7.out.trans (hb7.mono (Nat.le_succ _))); have HZ8 := Lib.hid hg7.size; clear ho7 hb7 hd7 hg7; obtain ⟨⟨-, r1⟩, -, rf1⟩ := PK8.out.two)
          have HT9 := Lib.hid (show hsL (qs.take k) ++ [(l1, n2)] = hsL (qs.take (k + 1)) from HTK.out.symm)
          rw [HT9.out] at HO8
          rw [HLN.out] at HO8 ⊢
          exact ⟨⟨k + 1, _, by omega, by go_num, HY.out trivial, PK8.out.set1 _, (HO8.out.kept ((Kept.refl w2.heap.size (w2.heap.size + 1) w7).setCell (p := ⟨w2.heap.size, 1, none⟩) (Nat.le_refl _) (Nat.lt_succ_self _) _) (.inr (Nat.le_refl _))).mono (Nat.le_refl _) (by simp [World.setCell]), HB8.out.setCell (Nat.le_refl _) _, by have h1 := HW7.out; have h2 := HZ8.out; have h3 := HZW.out; simp only [World.setCell, Array.size_modify]; omega⟩, by simp [RowKit.intOf]; omega⟩
        · have F := Lib.hid (parsRL_f2 (p := p) (HN.out (by
            cases o1 with
            | false => rw [HX.out rfl]
            | true =>
              cases o2 with
              | false => rw [HX2.out rfl]
              | true => exact absurd ⟨rfl, rfl⟩ hoo)))
          obtain ⟨⟨p0, p1⟩, pf0, pf1⟩ := K6.out.two
          have hor : (!o1 || !o2) = true := by cases o1 <;> cases o2 <;> simp_all
          have hret : (if (!o1) = true then true else !o2) = true := by cases o1 <;> cases o2 <;> simp_all
          clear HX HX2 HX3 hor hret
          cases o1 with
          | false =>
            go_wp2
            rw [F.out]
            refine bodyPost_ret (v := .tuple #[.agg #[.int .i64 0, .slice none 0 0], .bool false]) ?_ rfl ⟨⟨_, rfl, OwG.zero⟩, ((B2.out.trans (B6.out.mono B2.out.size)).setCell (by simp) _).setCell (by simp) _⟩
            simp [results, Tryd.results10, go_sem, p0, p1]
          | true =>
            cases o2 with
            | true => exact absurd ⟨rfl, rfl⟩ hoo
            | false =>
              go_wp2
              rw [F.out]
              refine bodyPost_ret (v := .tuple #[.agg #[.int .i64 0, .slice none 0 0], .bool false]) ?_ rfl ⟨⟨_, rfl, OwG.zero⟩, ((B2.out.trans (B6.out.mono B2.out.size)).setCell (by simp) _).setCell (by simp) _⟩
              simp [results, Tryd.results10, go_sem, p0, p1]
      · have F := Lib.hid (parsRL_f2 (p := p) (HN.out (by rw [parsH2_not h2])))
        go_wp2_with fail
        refine (HS3.out _).mono ?_
        rintro e w4 ⟨⟨v4, rfl, ho4⟩, hb4⟩
        have hsl := Sl.of_owns ho4
        obtain ⟨a4, c4, rfl, hm4, _⟩ := hsl.shape
        have B4 := Lib.hid (HP3.out.2.2.1.trans (hb4.mono HP3.out.2.2.1.size))
        have K4 := Lib.hid (K2.out.below B4.out)
        obtain ⟨⟨p0, p1⟩, pf0, pf1⟩ := K4.out.two
        rw [strVals_len] at hm4 ⊢
        have h3 : ¬ (xs.length : Int) = 2 := by omega
        clear ho4 hb4 hsl
        go_wp2
        rw [F.out]
        refine bodyPost_ret (v := .tuple #[.agg #[.int .i64 0, .slice none 0 0], .bool false]) ?_ rfl ⟨⟨_, rfl, OwG.zero⟩, ((B2.out.trans (B4.out.mono B2.out.size)).setCell (by simp) _).setCell (by simp) _⟩
        simp [results, Tryd.results10, go_sem, p0, p1]
    · obtain rfl : k = qs.length := by omega
      have hk2 := HK.out
      have ha := HP3.out
      rw [List.take_length] at hk2 ha
      have HK2 := Lib.hid hk2
      have HA := Lib.hid ha
      have BR := Lib.hid (B2.out.trans (ha.2.2.1.mono B2.out.size))
      have KR := Lib.hid (K2.out.below ha.2.2.1)
      have ZR := Lib.hid K2.out.lt
      obtain ⟨⟨l0, l1⟩, -⟩ := ha.1.two
      have HQ1 := Lib.hid (congrArg Prod.fst HQ0.out)
      have HQ2 := Lib.hid (congrArg Prod.snd HQ0.out)
      have hnu : ¬ ((qs.length : Nat) + 1 : Int) < (qs.length + 1 : Nat) := by omega
      simp only at HQ1 HQ2
      clear hk2 ha
      cases okb with
      | false =>
        have F := Lib.hid (parsRL_f1 (qs := qs) HQ2.out)
        obtain ⟨⟨p0, p1⟩, pf0, pf1⟩ := KR.out.two
        clear HS HB0
        go_wp2
        rw [F.out]
        refine bodyPost_ret (v := .tuple #[.agg #[.int .i64 0, .slice none 0 0], .bool false]) ?_ rfl ⟨⟨_, rfl, OwG.zero⟩, (BR.out.setCell (by simp) _).setCell (by simp) _⟩
        simp [results, Tryd.results10, go_sem, p0, p1]
      | true =>
        have HG := Lib.hid (show Rg wr (.agg #[.int .i64 n, .slice ua qs.length uc]) (n, hsL qs) from ⟨_, rfl, HA.out.2.1.hs⟩)
        by_cases cr : regOk n (hsL qs) = true
        · have CR := Lib.hid cr
          have F := Lib.hid (show parsRL (p :: qs) = ((n, hsL qs), true) by
            rw [parsRL_t HQ2.out HK2.out (by rw [HQ1.out]; exact CR.out), HQ1.out])
          have E := Lib.hid (show (⟨(regT n (hsL qs)).toArray⟩ : ByteArray) = s by
            have h := HB0.out HQ2.out HK2.out (by rw [HQ1.out]; exact CR.out)
            rw [HQ1.out] at h; exact h)
          clear cr HB0
          go_wp2_with fail
          refine (s_isreg (n, hsL qs) _ _ HG.out).mono ?_
          rintro e w4 ⟨rfl, hb4⟩
          rw [show regOk (n, hsL qs).1 (n, hsL qs).2 = true from CR.out]
          have B4 := Lib.hid (BR.out.trans (hb4.mono BR.out.size))
          have G4 := Lib.hid (HG.out.below hb4)
          have A4 := Lib.hid (And.intro (HA.out.1.below hb4) (HA.out.2.1.below hb4))
          have K4 := Lib.hid (KR.out.below hb4)
          have Z4 := Lib.hid hb4.size
          clear hb4 l0 l1
          obtain ⟨⟨l0, l1⟩, -⟩ := A4.out.1.two
          go_wp2_with fail
          refine (s_regtext (n, hsL qs) _ _ G4.out).mono ?_
          rintro e w5 ⟨rfl, hb5⟩
          rw [show (⟨(regT (n, hsL qs).1 (n, hsL qs).2).toArray⟩ : ByteArray) = s from E.out]
          have B5 := Lib.hid (B4.out.trans (hb5.mono B4.out.size))
          have A5 := Lib.hid (And.intro (A4.out.1.below hb5) (A4.out.2.below hb5))
          have Z5 := Lib.hid hb5.size
          obtain ⟨⟨p0, p1⟩, pf0, pf1⟩ := (K4.out.below hb5).two
          clear hb5 l0 l1
          obtain ⟨⟨l0, l1⟩, -⟩ := A5.out.1.two
          go_wp2
          rw [F.out]
          refine bodyPost_ret (v := .tuple #[.agg #[.int .i64 n, .slice ua qs.length uc], .bool true]) ?_ rfl ⟨⟨_, rfl, _, rfl, ?_⟩, (B5.out.setCell (by simp) _).setCell (by simp) _⟩
          · simp [results, Tryd.results10, go_sem, p0, p1]
          · have h1 := ZR.out
            have h2 := B2.out.size
            exact (A5.out.2.kept (((Kept.refl w.heap.size (w.heap.size + 1) w5).setCell (p := ⟨w.heap.size, 0, none⟩) (Nat.le_refl _) (Nat.lt_succ_self _) _).setCell (p := ⟨w.heap.size, 1, none⟩) (Nat.le_refl _) (Nat.lt_succ_self _) _) (.inr (by omega))).mono (by omega) (by have h3 := Z4.out; have h4 := Z5.out; simp only [World.setCell, Array.size_modify]; omega)
        · have CR := Lib.hid (bool_f cr)
          have F := Lib.hid (parsRL_f3 (p := p) (qs := qs) (by rw [HQ1.out]; exact cr))
          clear cr HB0
          go_wp2_with fail
          refine (s_isreg (n, hsL qs) _ _ HG.out).mono ?_
          rintro e w4 ⟨rfl, hb4⟩
          rw [show regOk (n, hsL qs).1 (n, hsL qs).2 = false from CR.out]
          have B4 := Lib.hid (BR.out.trans (hb4.mono BR.out.size))
          obtain ⟨⟨p0, p1⟩, pf0, pf1⟩ := (KR.out.below hb4).two
          clear hb4
          go_wp2
          rw [F.out]
          refine bodyPost_ret (v := .tuple #[.agg #[.int .i64 0, .slice none 0 0], .bool false]) ?_ rfl ⟨⟨_, rfl, OwG.zero⟩, (B4.out.setCell (by simp) _).setCell (by simp) _⟩
          simp [results, Tryd.results10, go_sem, p0, p1]
end Go.Proofs.YtflkalgofkpdbaaDoor
/- The program's text of a region. -/
namespace Go.Proofs.YtflkalgofkpdbaaDoor
open Go.RowKit Go.Lib

/-- append(out, s) at an operation. -/
theorem wp_app_str {o : Oper} {a : Act} {w : World} {K : Act → World → Prop} {Q : Exit → Act → World → Prop} (s x : Operand)
    (ho : o.op = .call { callee := .builtin .append, args := #[s, x], argTypes := #[45, 45] })
    (base : Nat) (v : Value) (n : Nat) (xs : List ByteArray) (z : ByteArray) (hs : a.eval s = v) (hown : w.ownsRow base 9 1 v n (strVals xs))
    (H : Nat) (hx : a.eval x = .slice (some ⟨H, 0, none⟩) 1 1) (hnew : w.heap[H]? = some (.cells #[.string z] 9 (0, 0)))
    (hn : n ≤ 1099511627776) (hbase : base ≤ w.heap.size)
    (h : ∀ v' w', w'.ownsRow base 9 1 v' (n + 1) (strVals (xs ++ [z])) → Below base w w' → w.grownBy w' v.ownBlock → K (a.put o.dst v') w') : o.wp Tryd.prog a w K Q := by
  obtain ⟨i0, hi, hz0, hz1, hz2⟩ := info_parts info_str
  refine wp_append_lies w s x 45 ho base 9 i0 _ 1 16 Tryd.underlying45 hi hz0 hz1 hz2 rfl (by omega) v n _ hs hown ⟨H, 0, none⟩ 1 1 [.string z] hx rfl (World.news_of_block (cs := #[.string z]) hnew) (by simp [Value.oneCell']) (by omega) (by unfold maxLen; omega) (by omega) hbase w.heap.size rfl ?_
  intro g cap w' h1 h2 h3 h4
  refine h _ w' (by simpa [strVals] using h1) ((Below.refl base w).grown h2 hbase ?_) h2
  intro k hk
  exact (hown.lt k hk).1
theorem halfOk_tv {n : Int} {h : Hf} (k : halfOk n h = true) : textV h.1 = textL h.1 := by
  have h1 := halfOk_t k
  refine if_pos ?_
  rw [isV_mk (by omega) (by omega)]
  exact small_mk fun i hi => ⟨by have := (h1.2.2.2.1 i hi).1; omega, by have := (h1.2.2.2.1 i hi).2; omega⟩
theorem str_half {h : Hf} {t1 t2 : ByteArray} (h1 : (⟨(textL h.1).toArray⟩ : ByteArray) = t1) (h2 : (⟨(itoa h.2).toArray⟩ : ByteArray) = t2) : t1 ++ ⟨#[60]⟩ ++ t2 = halfB h := by
  rw [← h1, ← h2]
  refine ByteArray.ext (Array.toList_inj.1 ?_)
  simp [halfB]

set_option maxRecDepth 100000 in
set_option maxHeartbeats 3200000 in
theorem i_regtext (r : Rgn) (v : Value) (w : World) (hx : HasPow w) (hv : Rg w v r) :
    Calls Tryd.prog 8 #[v] w (Quiet w (.string ⟨(regT r.1 r.2).toArray⟩)) := by
  have HR := Lib.hid hv
  have HXP := Lib.hid hx
  obtain ⟨n, hs'⟩ := r
  obtain ⟨u, rfl, hss⟩ := hv
  simp only at hss ⊢
  have HV := Lib.hid hss
  obtain ⟨p, c, rfl, hm⟩ := hss.shape
  unfold maxLen at hm
  have K := Lib.hid (Bk.new w #[.int .i64 n, .slice p hs'.length c] 29)
  have B0 := Lib.hid (below1 w (.cells #[.int .i64 n, .slice p hs'.length c] 29))
  clear hss hx
  by_cases c1 : regOk n hs' = true
  case neg =>
    have C1 := Lib.hid (bool_f c1)
    have E := Lib.hid (show regT n hs' = [] from if_neg c1)
    clear c1
    go_enter Tryd.func8, Tryd.ntmps8
    go_wp2_with fail
    refine (i_isreg (n, hs') _ _ (HR.out.below B0.out)).mono ?_
    rintro e w1 ⟨rfl, hb⟩
    rw [show regOk (n, hs').1 (n, hs').2 = false from C1.out]
    have B1 := Lib.hid (B0.out.trans (hb.mono B0.out.size))
    clear hb
    go_wp2_with fail
    go_ret
    exact ⟨ret_str E.out.symm, B1.out⟩
  have C1 := Lib.hid c1
  have E := Lib.hid (show regT n hs' = regTx n hs' from if_pos c1)
  obtain ⟨r1, r2, r3, r4⟩ := regOk_t c1
  have HH := Lib.hid (fun (k : Nat) (hk : k < hs'.length) => And.intro (halfOk_tx (r4 k hk)) (halfOk_tv (r4 k hk)))
  have HSZ := Lib.hid (regB_sizes n hs' (fun h hh => by obtain ⟨i, hi, rfl⟩ := List.mem_iff_getElem.1 hh; exact halfOk_tx (r4 i hi)) (by omega) (by omega))
  clear c1 r4
  go_enter Tryd.func8, Tryd.ntmps8
  go_wp2_with fail
  refine (i_isreg (n, hs') _ _ (HR.out.below B0.out)).mono ?_
  rintro e w1 ⟨rfl, hb⟩
  rw [show regOk (n, hs').1 (n, hs').2 = true from C1.out]
  have B1 := Lib.hid (B0.out.trans (hb.mono B0.out.size))
  have K1 := Lib.hid (K.out.below hb)
  clear hb
  obtain ⟨⟨l0, l1⟩, -⟩ := K1.out.two
  go_wp2_with fail
  refine (ifi n (by omega) (by omega) _ (HXP.out.below B1.out)).mono ?_
  rintro e w2 ⟨rfl, hb⟩
  have B2 := Lib.hid (B1.out.trans (hb.mono B1.out.size))
  have K2 := Lib.hid (K1.out.below hb)
  clear hb l0 l1
  have hb3 := below1 w2 (.cells #[.string ⟨(itoa n).toArray⟩] 9)
  have K3 := Lib.hid (K2.out.below hb3)
  have B3 := Lib.hid (B2.out.trans (hb3.mono B2.out.size))
  have HO := Lib.hid (show (w2.alloc (.cells #[.string ⟨(itoa n).toArray⟩] 9)).ownsRow w2.heap.size 9 1 (.slice (some ⟨w2.heap.size, 0, none⟩) 1 1) (0 + 1) (strVals (regB n (hs'.take 0))) from ⟨by simp [strVals, regB], .inr ⟨w2.heap.size, 1, _, rfl, Nat.le_refl _, heap_alloc_new w2 _, Nat.le_refl _, by unfold maxLen; omega, by simp, by simp [strVals, regB, numeral]⟩⟩)
  obtain ⟨⟨l0, l1⟩, -⟩ := K3.out.two
  clear hb3
  go_wp2
  clear l0 l1
  go_loopw [3, 16] (fun o i wr => ∃ (k : Nat) (pv : Value), k ≤ hs'.length ∧ i = .int .i64 k ∧ pv = o ∧ wr.ownsRow w2.heap.size 9 1 pv (k + 1) (strVals (regB n (hs'.take k))) ∧ Below w.heap.size w wr ∧ w2.heap.size ≤ wr.heap.size) (fun _ i _ => hs'.length - (RowKit.intOf i).toNat)
  case atStart => exact ⟨0, _, Nat.zero_le _, rfl, rfl, HO.out, B3.out, by simp⟩
  case round =>
    obtain ⟨k, pv, hk, rfl, rfl, how, hbr, hsz⟩ := hrel
    have HW := Lib.hid how
    have HB := Lib.hid hbr
    by_cases hlt : k < hs'.length
    · obtain ⟨b, off, y, rfl, _, hb2, hcell, hcell1, hsx⟩ := HV.out.half k hlt rfl
      rw [← hbr.cell (p := ⟨b, off + k * 2, none⟩) hb2] at hcell
      rw [← hbr.cell (p := ⟨b, off + k * 2 + 1, none⟩) hb2] at hcell1
      have HX := Lib.hid hsx
      obtain ⟨xa, xc, rfl, _, _⟩ := hsx.shape
      rw [intVals_len] at hcell HX
      have i1 : (0 : Int) ≤ (k : Int) := by omega
      have i2 : (k : Int) < (hs'.length : Int) := by omega
      have HK := Lib.hid (HH.out k hlt)
      have HRB := Lib.hid (regB_take (n := n) hlt)
      obtain ⟨t1, ht1⟩ : ∃ q : ByteArray, (⟨(textL hs'[k].1).toArray⟩ : ByteArray) = q := ⟨_, rfl⟩
      obtain ⟨t2, ht2⟩ : ∃ q : ByteArray, (⟨(itoa hs'[k].2).toArray⟩ : ByteArray) = q := ⟨_, rfl⟩
      have hz1 : t1.size ≤ 66 := by have h := textL_len _ HK.out.1.2.1; have h3 := HK.out.1.1; rw [← ht1]; show (textL hs'[k].1).toArray.size ≤ 66; simp only [List.size_toArray]; omega
      have hz2 : t2.size ≤ 21 := by rw [← ht2]; exact numeral_size _ HK.out.1.2.2.1 HK.out.1.2.2.2
      have HT1 := Lib.hid ht1
      have HT2 := Lib.hid ht2
      have HST := Lib.hid (str_half ht1 ht2)
      have HNB := Lib.hid (below1 wr (.cells #[.slice xa hs'[k].1.length xc, .int .i64 hs'[k].2] 43))
      have KH := Lib.hid (Bk.new wr #[.slice xa hs'[k].1.length xc, .int .i64 hs'[k].2] 43)
      clear hsx hb2 ht1 ht2 how hbr
      go_wp2
      refine wgen ?_
      intro W hW
      have KW := Lib.hid (show Bk W wr.heap.size #[.slice xa hs'[k].1.length xc, .int .i64 hs'[k].2] 43 ∧ Below wr.heap.size wr W by rw [hW]; exact ⟨KH.out, HNB.out⟩)
      clear hW KH HNB hcell hcell1
      obtain ⟨⟨m0, m1⟩, -⟩ := KW.out.1.two
      refine T_begin (z := fun k => 10 < k) (S := fun (w' : World) => w'.cell? ⟨wr.heap.size, 0, none⟩ = some (.slice xa hs'[k].1.length xc) ∧ w'.cell? ⟨wr.heap.size, 1, none⟩ = some (.int .i64 hs'[k].2)) (by kernel_rfl) ?_
      show wpAnyT _ _ _ _ _ _ 12 _ _ _
      have hS0 := Lib.hid (show (fun (w' : World) => w'.cell? ⟨wr.heap.size, 0, none⟩ = some (.slice xa hs'[k].1.length xc) ∧ w'.cell? ⟨wr.heap.size, 1, none⟩ = some (.int .i64 hs'[k].2)) _ from ⟨m0, m1⟩)
      refine T_take (i := 0) (v := pv) rfl (by kernel_rfl) (by kernel_rfl) (by kernel_rfl) (by kernel_rfl) (fun _ _ _ h => h) hS0.out rfl (fun w' hS' => by (try dsimp only at hS'); go_simp) ?_
      refine T_take (i := 1) (v := .pointer (some ⟨wr.heap.size, 0, none⟩)) rfl (by kernel_rfl) (by kernel_rfl) (by kernel_rfl) (by kernel_rfl) (fun _ _ _ h => h) hS0.out rfl (fun w' hS' => by (try dsimp only at hS'); go_simp) ?_
      refine T_take (i := 2) (v := .slice xa hs'[k].1.length xc) rfl (by kernel_rfl) (by kernel_rfl) (by kernel_rfl) (by kernel_rfl) (fun _ _ _ h => h) hS0.out rfl (fun w' hS' => by (try dsimp only at hS'); go_simp) ?_
      refine T_take (i := 5) (v := .pointer (some ⟨wr.heap.size, 1, none⟩)) rfl (by kernel_rfl) (by kernel_rfl) (by kernel_rfl) (by kernel_rfl) (fun _ _ _ h => h) hS0.out rfl (fun w' hS' => by (try dsimp only at hS'); go_simp) ?_
      refine T_take (i := 6) (v := .int .i64 hs'[k].2) rfl (by kernel_rfl) (by kernel_rfl) (by kernel_rfl) (by kernel_rfl) (fun _ _ _ h => h) hS0.out rfl (fun w' hS' => by (try dsimp only at hS'); go_simp) ?_
      refine T_step (i := 3) rfl (by kernel_rfl) rfl rfl ?_
      intro K hK
      go_simp
      refine (i_text hs'[k].1 _ _ (HXP.out.below (HB.out.trans (KW.out.2.mono HB.out.size)).drew) (HX.out.below (HB.out.trans (KW.out.2.mono HB.out.size)).drew)).mono ?_
      rintro e w3 ⟨rfl, hb1⟩
      rw [HK.out.2, HT1.out]
      have hb1 : Below W.heap.size W w3 := (Below.refl _ _).drew.trans hb1
      have s1 := show (fun (w' : World) => w'.cell? ⟨wr.heap.size, 0, none⟩ = some (.slice xa hs'[k].1.length xc) ∧ w'.cell? ⟨wr.heap.size, 1, none⟩ = some (.int .i64 hs'[k].2)) w3 from (KW.out.1.below hb1).two.1
      have HB3 := Lib.hid (KW.out.2.trans (hb1.mono KW.out.2.size))
      have K3 := Lib.hid (KW.out.1.below hb1)
      clear hb1 hS0
      refine hK.out _ _ s1 ?_
      clear hK K
      have hS1 := Lib.hid s1
      clear s1
      refine T_take (i := 4) (v := .string (t1 ++ ⟨#[60]⟩)) rfl (by kernel_rfl) (by kernel_rfl) (by kernel_rfl) (by kernel_rfl) (fun _ _ _ h => h) hS1.out rfl (fun w' hS' => by go_simp; omega) ?_
      refine T_step (i := 7) rfl (by kernel_rfl) rfl rfl ?_
      intro K hK
      go_simp
      refine (ifi hs'[k].2 HK.out.1.2.2.1 HK.out.1.2.2.2 _ (HXP.out.below (HB.out.trans (HB3.out.mono HB.out.size)))).mono ?_
      rintro e w4 ⟨rfl, hb1⟩
      rw [HT2.out]
      have s2 := show (fun (w' : World) => w'.cell? ⟨wr.heap.size, 0, none⟩ = some (.slice xa hs'[k].1.length xc) ∧ w'.cell? ⟨wr.heap.size, 1, none⟩ = some (.int .i64 hs'[k].2)) w4 from (K3.out.below hb1).two.1
      have HB4 := Lib.hid (HB3.out.trans (hb1.mono HB3.out.size))
      have K4 := Lib.hid (K3.out.below hb1)
      clear hb1 hS1
      refine hK.out _ _ s2 ?_
      clear hK K
      have hS2 := Lib.hid s2
      clear s2
      refine T_take (i := 8) (v := .string (t1 ++ ⟨#[60]⟩ ++ t2)) rfl (by kernel_rfl) (by kernel_rfl) (by kernel_rfl) (by kernel_rfl) (fun _ _ _ h => h) hS2.out rfl (fun w' hS' => by go_simp; omega) ?_
      refine T_step (i := 9) rfl (by kernel_rfl) rfl rfl ?_
      intro K hK
      go_simp
      have hb5 := below1 w4 (.cells #[.string (t1 ++ ⟨#[60]⟩ ++ t2)] 9)
      have s3 := show (fun (w' : World) => w'.cell? ⟨wr.heap.size, 0, none⟩ = some (.slice xa hs'[k].1.length xc) ∧ w'.cell? ⟨wr.heap.size, 1, none⟩ = some (.int .i64 hs'[k].2)) (w4.alloc (.cells #[.string (t1 ++ ⟨#[60]⟩ ++ t2)] 9)) from (K4.out.below hb5).two.1
      have HB5 := Lib.hid (HB4.out.trans (hb5.mono HB4.out.size))
      have K5 := Lib.hid (K4.out.below hb5)
      have HN := Lib.hid (heap_alloc_new w4 (.cells #[.string (t1 ++ ⟨#[60]⟩ ++ t2)] 9))
      clear hb5 hS2
      refine hK.out _ _ s3 ?_
      clear hK K s3
      refine T_step (i := 10) rfl (by kernel_rfl) rfl rfl ?_
      intro K hK
      refine wp_app_str _ _ (by rfl) w2.heap.size _ (k + 1) (regB n (hs'.take k)) _ (by rfl) (owns_below HW.out HB5.out) w4.heap.size (by rfl) HN.out (by omega) (Nat.le_trans hsz HB5.out.size) ?_
      intro v' w6 hown hb6 hg6
      rw [HST.out] at hown
      rw [← HRB.out] at hown
      have HO6 := Lib.hid hown
      have HB6 := Lib.hid (show Below w2.heap.size wr w6 from (HB5.out.mono hsz).trans hb6)
      have s6 := show (fun (w' : World) => w'.cell? ⟨wr.heap.size, 0, none⟩ = some (.slice xa hs'[k].1.length xc) ∧ w'.cell? ⟨wr.heap.size, 1, none⟩ = some (.int .i64 hs'[k].2)) w6 from (K5.out.grown hg6 (fun e => by have h := (HW.out.lt _ e.symm).2; omega)).two.1
      clear hown hb6 hg6
      refine hK.out _ _ s6 ?_
      clear hK K s6
      refine T_last (i := 11) rfl (by kernel_rfl) (by kernel_rfl) rfl rfl ?_
      go_simp
      go_wp2
      exact ⟨⟨k + 1, _, by omega, by go_num, rfl, HO6.out, HB.out.trans (HB6.out.mono B2.out.size), Nat.le_trans hsz HB6.out.size⟩, by simp [RowKit.intOf]; omega⟩
    · obtain rfl : k = hs'.length := by omega
      have hw := HW.out
      rw [List.take_length] at hw
      have HW2 := Lib.hid (Sl.of_owns hw)
      have HJ := Lib.hid (show jn [59] (regB n hs') = regT n hs' by rw [regB_join, E.out])
      have HLN := Lib.hid (regB_len n hs')
      clear hw how hbr
      go_wp2_with fail
      refine (ijoin (regB n hs') ⟨#[59]⟩ _ _ HW2.out (by rw [HLN.out]; omega) (by show 1 ≤ 1048576; omega) (by have := HSZ.out; omega)).mono ?_
      rintro e w7 ⟨rfl, hb1⟩
      have HB1 := Lib.hid (HB.out.trans (hb1.mono HB.out.size))
      clear hb1
      go_wp2_with fail
      go_ret
      exact ⟨ret_str HJ.out, HB1.out⟩
end Go.Proofs.YtflkalgofkpdbaaDoor
/- The program's ParseRegion. -/
namespace Go.Proofs.YtflkalgofkpdbaaDoor
open Go.RowKit Go.Lib

/-- What a function that answers a half and whether it is there leaves. -/
def GotHv (w : World) (r : Hf × Bool) (e : Ending) (w' : World) : Prop := (∃ v, e = .returned (.tuple #[v, .bool r.2]) ∧ OwHv w.heap.size w'.heap.size w' v r.1) ∧ Below w.heap.size w w'
theorem OwHv.zero {lo hi : Nat} {w : World} : OwHv lo hi w (.agg #[.slice none 0 0, .int .i64 0]) ([], 0) := ⟨_, rfl, OwnV.nil⟩

set_option maxRecDepth 100000 in
set_option maxHeartbeats 1600000 in
theorem i_parsehalf (s : ByteArray) (hs : s.size ≤ 1048576) (w : World) (hv : Vars w) (hx : HasMax w) :
    Calls Tryd.prog 29 #[.string s] w (GotHv w (parsH s)) := by
  have HV := Lib.hid hv
  have HM := Lib.hid hx
  have HS := Lib.hid (isplit s 60 hs)
  have hsz := parts_size (c := 60) s.data.toList
  rw [show parsH s = parsH2 (parts 60 s.data.toList) from rfl]
  rw [list_len] at hsz
  generalize parts 60 s.data.toList = xs at HS hsz ⊢
  clear hv hx
  have K0 := Lib.hid (Bk.new w #[.slice none 0 0, .int .i64 0] 43)
  have B0 := Lib.hid (below1 w (.cells #[.slice none 0 0, .int .i64 0] 43))
  by_cases h2 : xs.length = 2
  · obtain ⟨a, b, rfl⟩ := two_of h2
    have HA := Lib.hid (i_pars a (by have := hsz a (by simp); omega))
    have HB := Lib.hid (i_readI b (by have := hsz b (by simp); omega))
    have HX := Lib.hid (parsH2_f1 (a := a) (b := b))
    have HX2 := Lib.hid (parsH2_f2 (a := a) (b := b))
    have HX3 := Lib.hid (parsH2_t (a := a) (b := b))
    unfold rdS at HX2 HX3
    generalize hv1 : parsV a.data.toList = V1 at HA HX HX3
    generalize hv2 : rdI b.data.toList = V2 at HB HX2 HX3
    clear hv1 hv2 hsz h2
    obtain ⟨l1, o1⟩ := V1
    obtain ⟨n2, o2⟩ := V2
    simp only [Bool.false_eq_true] at HX HX2 HX3
    go_enter Tryd.func29, Tryd.ntmps29
    go_wp2_with fail
    refine (HS.out _ (HM.out.below B0.out)).mono ?_
    rintro e w4 ⟨⟨g4, rfl, ho4⟩, hb4⟩
    have B4 := Lib.hid (B0.out.trans (hb4.mono B0.out.size))
    have K4 := Lib.hid (K0.out.below hb4)
    have HSL := Lib.hid (Sl.of_owns ho4)
    have Z4 := Lib.hid hb4.size
    clear ho4 hb4
    obtain ⟨q, off2, c2, he2, hc2, hq2, ca, cb⟩ := two_cells HSL.out
    obtain ⟨rfl, rfl⟩ : g4 = q ∧ off2 = 0 := by simp at he2; exact ⟨he2.1.1, he2.1.2.symm⟩
    clear hc2 he2
    go_wp2_with fail
    refine (HA.out _ (HV.out.below B4.out) (HM.out.below B4.out)).mono ?_
    rintro e w5 ⟨⟨v5, rfl, ho5⟩, hb5⟩
    have cb5 := (hb5.cell (p := ⟨g4, 0 + 1, none⟩) hq2).trans cb
    have hq5 := Nat.lt_of_lt_of_le hq2 hb5.size
    have B5 := Lib.hid (B4.out.trans (hb5.mono B4.out.size))
    have K5 := Lib.hid (K4.out.below hb5)
    have HO5 := Lib.hid ho5
    have Z5 := Lib.hid hb5.size
    obtain ⟨a5, c5, rfl, hm5⟩ := ho5.shape1
    rw [intVals_len] at hm5 HO5 ⊢
    clear ho5 hb5 ca cb
    go_wp2_with fail
    refine (HB.out _ (HV.out.below B5.out)).mono ?_
    rintro e w6 ⟨rfl, hb6⟩
    have B6 := Lib.hid (B5.out.trans (hb6.mono B5.out.size))
    have K6 := Lib.hid (K5.out.below hb6)
    have HO6 := Lib.hid ((HO5.out.below hb6).mono (Nat.le_refl _) hb6.size)
    have Z6 := Lib.hid hb6.size
    clear hb6 cb5
    obtain ⟨⟨p0, p1⟩, pf0, pf1⟩ := K6.out.two
    cases o1 with
    | false =>
      go_wp2
      rw [HX.out trivial]
      refine bodyPost_ret (v := .tuple #[.agg #[.slice none 0 0, .int .i64 0], .bool false]) ?_ rfl ⟨⟨_, rfl, OwHv.zero⟩, (B6.out.setCell (by simp) _).setCell (by simp) _⟩
      simp [results, Tryd.results29, go_sem, p0, p1]
    | true =>
      cases o2 with
      | false =>
        go_wp2
        rw [HX2.out trivial]
        refine bodyPost_ret (v := .tuple #[.agg #[.slice none 0 0, .int .i64 0], .bool false]) ?_ rfl ⟨⟨_, rfl, OwHv.zero⟩, (B6.out.setCell (by simp) _).setCell (by simp) _⟩
        simp [results, Tryd.results29, go_sem, p0, p1]
      | true =>
        go_wp2
        rw [HX3.out trivial trivial]
        refine bodyPost_ret (v := .tuple #[.agg #[.slice a5 l1.length c5, .int .i64 n2], .bool true]) ?_ rfl ⟨⟨_, rfl, _, rfl, ?_⟩, (B6.out.setCell (by simp) _).setCell (by simp) _⟩
        · simp [results, Tryd.results29, go_sem, p0, p1]
        · have h1 := alloc_lt w (.cells #[.slice none 0 0, .int .i64 0] 43)
          exact (HO6.out.kept (((Kept.refl w.heap.size (w.heap.size + 1) w6).setCell (p := ⟨w.heap.size, 0, none⟩) (Nat.le_refl _) (Nat.lt_succ_self _) _).setCell (p := ⟨w.heap.size, 1, none⟩) (Nat.le_refl _) (Nat.lt_succ_self _) _) (.inr (Nat.le_trans h1 Z4.out))).mono B4.out.size (by simp [World.setCell])
  · have HX := Lib.hid (parsH2_not h2)
    go_enter Tryd.func29, Tryd.ntmps29
    go_wp2_with fail
    refine (HS.out _ (HM.out.below B0.out)).mono ?_
    rintro e w4 ⟨⟨g4, rfl, ho4⟩, hb4⟩
    have B4 := Lib.hid (B0.out.trans (hb4.mono B0.out.size))
    obtain ⟨⟨p0, p1⟩, pf0, pf1⟩ := (K0.out.below hb4).two
    have hm4 := (Sl.of_owns ho4).shape
    have h3 : ¬ (xs.length : Int) = 2 := by omega
    clear ho4 hb4 hm4
    go_wp2
    rw [HX.out]
    refine bodyPost_ret (v := .tuple #[.agg #[.slice none 0 0, .int .i64 0], .bool false]) ?_ rfl ⟨⟨_, rfl, OwHv.zero⟩, (B4.out.setCell (by simp) _).setCell (by simp) _⟩
    simp [results, Tryd.results29, go_sem, p0, p1]

set_option maxRecDepth 100000 in
set_option maxHeartbeats 3200000 in
theorem i_parsreg (s : ByteArray) (hs : s.size ≤ 1048576) (w : World) (hv : Vars w) (hx : HasMax w) :
    Calls Tryd.prog 11 #[.string s] w (GotG w (parsR s.data.toList)) := by
  have HV := Lib.hid hv
  have HM := Lib.hid hx
  have HS := Lib.hid (isplit s 59 hs)
  have hps := parts_size (c := 59) s.data.toList
  have hp1 := parts_some 59 s.data.toList
  have hpn : (parts 59 s.data.toList).length ≤ 1048577 := by
    rw [parts_len]
    have := sp_len_le 59 s.data.toList
    rw [list_len] at this; omega
  unfold parsR
  rw [list_len] at hps
  generalize parts 59 s.data.toList = ps at HS hps hp1 hpn ⊢
  obtain ⟨p, qs, rfl⟩ := cons_parts hp1
  clear hp1 hv hx
  have HP := Lib.hid (show p.size ≤ s.size ∧ ∀ j (h : j < qs.length), qs[j].size ≤ s.size from ⟨hps p (List.mem_cons_self ..), fun j h => hps _ (List.mem_cons_of_mem _ (List.getElem_mem h))⟩)
  have hqn : qs.length ≤ 1048576 := by simpa using hpn
  clear hps hpn
  have K0 := Lib.hid (Bk.new w #[.int .i64 0, .slice none 0 0] 29)
  have B0 := Lib.hid (below1 w (.cells #[.int .i64 0, .slice none 0 0] 29))
  have HR0 := Lib.hid (pn_any p (by have := HP.out.1; omega))
  go_enter Tryd.func11, Tryd.ntmps11
  go_wp2_with fail
  refine (HS.out _ (HM.out.below B0.out)).mono ?_
  rintro e w1 ⟨⟨g1, rfl, ho1⟩, hb1⟩
  have B1 := Lib.hid (B0.out.trans (hb1.mono B0.out.size))
  have K1 := Lib.hid (K0.out.below hb1)
  have hsl := Sl.of_owns ho1
  rw [List.length_cons] at hsl ⊢
  have HS1 := Lib.hid hsl
  obtain ⟨a, c, e1, hm, hopen⟩ := hsl.shape
  rw [strVals_len, List.length_cons] at hm hopen e1
  obtain ⟨bb, off, rfl, hc, hlt1, hx⟩ := hopen (by omega)
  obtain ⟨rfl, rfl⟩ : g1 = bb ∧ off = 0 := by simp at e1; exact ⟨e1.1.1, e1.1.2.symm⟩
  have c0 := hx 0 _ (strVals_get (p :: qs) 0 (by simp))
  rw [Nat.add_zero, List.getElem_cons_zero] at c0
  clear ho1 hb1 hsl hopen hx hm hc e1
  go_wp2_with fail
  refine (HR0.out _ (HV.out.below B1.out)).mono ?_
  rintro e w2 ⟨he2, hb2⟩
  have B2 := Lib.hid (B1.out.trans (hb2.mono B1.out.size))
  have K2 := Lib.hid (K1.out.below hb2)
  have HS2 := Lib.hid (HS1.out.below hb2)
  clear hb2 c0 hlt1 HS1 B1 K1 HS K0 B0 HR0
  rcases he2 with ⟨n, hn, rfl⟩ | ⟨hn, rfl⟩
  case inr =>
    have F := Lib.hid (pn_none (qs := qs) hn)
    obtain ⟨⟨p0, p1⟩, pf0, pf1⟩ := K2.out.two
    clear hn
    go_wp2
    rw [F.out]
    refine bodyPost_ret (v := .tuple #[.agg #[.int .i64 0, .slice none 0 0], .bool false]) ?_ rfl ⟨⟨_, rfl, OwG.zero⟩, (B2.out.setCell (by simp) _).setCell (by simp) _⟩
    simp [results, Tryd.results11, go_sem, p0, p1]
  have HQ := Lib.hid (show rdS p = (n, true) from pn_reg hn.1)
  have HQ1 := Lib.hid (congrArg Prod.fst HQ.out)
  have HQ2 := Lib.hid (congrArg Prod.snd HQ.out)
  simp only at HQ1 HQ2
  clear hn HQ
  have HW3 := Lib.hid (show ∀ W, W = w2.alloc (.cells #[.int .i64 n, .slice none 0 0] 29) → PaI w2 n [] (.slice none 0 0) W by
    intro W hW
    subst hW
    exact ⟨Bk.new w2 _ _, OwH.nil, below1 w2 _, by simp⟩)
  by_cases hq : qs = []
  case pos =>
    subst hq
    go_wp2_with fail
    refine wgen ?_
    intro W0 hW0
    have HA := Lib.hid (HW3.out W0 hW0)
    have HK2 := Lib.hid (show hsOk [] = true from rfl)
    have BR := Lib.hid (B2.out.trans (HA.out.2.2.1.mono B2.out.size))
    have KR := Lib.hid (K2.out.below HA.out.2.2.1)
    have ZR := Lib.hid K2.out.lt
    clear hW0 HW3 HS2 HP
    obtain ⟨⟨l0, l1⟩, -⟩ := HA.out.1.two
    go_loopw [29] (fun i w' => i = .int .i64 0 ∧ w' = W0) (fun i _ => 0)
    case atStart => exact ⟨rfl, rfl⟩
    case round =>
      obtain ⟨rfl, rfl⟩ := hrel
      have HG := Lib.hid (show Rg wr (.agg #[.int .i64 n, .slice none 0 0]) (n, hsL ([] : List ByteArray)) from ⟨_, rfl, HA.out.2.1.hs⟩)
      by_cases cr : regOk n (hsL ([] : List ByteArray)) = true
      · have CR := Lib.hid cr
        have F := Lib.hid (show parsRL (p :: ([] : List ByteArray)) = ((n, hsL ([] : List ByteArray)), true) by
          rw [parsRL_t HQ2.out HK2.out (by rw [HQ1.out]; exact CR.out), HQ1.out])
        clear cr
        go_wp2_with fail
        refine (i_isreg (n, hsL ([] : List ByteArray)) _ _ HG.out).mono ?_
        rintro e w4 ⟨rfl, hb4⟩
        rw [show regOk (n, hsL ([] : List ByteArray)).1 (n, hsL ([] : List ByteArray)).2 = true from CR.out]
        have B4 := Lib.hid (BR.out.trans (hb4.mono BR.out.size))
        have A4 := Lib.hid (And.intro (HA.out.1.below hb4) (HA.out.2.1.below hb4))
        have Z4 := Lib.hid hb4.size
        obtain ⟨⟨p0, p1⟩, pf0, pf1⟩ := (KR.out.below hb4).two
        clear hb4 l0 l1
        obtain ⟨⟨l0, l1⟩, -⟩ := A4.out.1.two
        go_wp2
        rw [F.out]
        refine bodyPost_ret (v := .tuple #[.agg #[.int .i64 n, .slice none 0 0], .bool true]) ?_ rfl ⟨⟨_, rfl, _, rfl, ?_⟩, (B4.out.setCell (by simp) _).setCell (by simp) _⟩
        · simp [results, Tryd.results11, go_sem, p0, p1]
        · have h1 := ZR.out
          have h2 := B2.out.size
          exact (A4.out.2.kept (((Kept.refl w.heap.size (w.heap.size + 1) w4).setCell (p := ⟨w.heap.size, 0, none⟩) (Nat.le_refl _) (Nat.lt_succ_self _) _).setCell (p := ⟨w.heap.size, 1, none⟩) (Nat.le_refl _) (Nat.lt_succ_self _) _) (.inr (by omega))).mono (by omega) (by have h3 := Z4.out; simp only [World.setCell, Array.size_modify]; omega)
      · have CR := Lib.hid (bool_f cr)
        have F := Lib.hid (parsRL_f3 (p := p) (qs := ([] : List ByteArray)) (by rw [HQ1.out]; exact cr))
        clear cr
        go_wp2_with fail
        refine (i_isreg (n, hsL ([] : List ByteArray)) _ _ HG.out).mono ?_
        rintro e w4 ⟨rfl, hb4⟩
        rw [show regOk (n, hsL ([] : List ByteArray)).1 (n, hsL ([] : List ByteArray)).2 = false from CR.out]
        have B4 := Lib.hid (BR.out.trans (hb4.mono BR.out.size))
        obtain ⟨⟨p0, p1⟩, pf0, pf1⟩ := (KR.out.below hb4).two
        clear hb4
        go_wp2
        rw [F.out]
        refine bodyPost_ret (v := .tuple #[.agg #[.int .i64 0, .slice none 0 0], .bool false]) ?_ rfl ⟨⟨_, rfl, OwG.zero⟩, (B4.out.setCell (by simp) _).setCell (by simp) _⟩
        simp [results, Tryd.results11, go_sem, p0, p1]
  case neg =>
    have hq1 : 0 < qs.length := List.length_pos_iff.2 hq
    go_wp2_with fail
    refine wgen ?_
    intro W3 hW3
    have P3 := Lib.hid (HW3.out W3 hW3)
    clear hW3 HW3 hq
    go_loopw [29] (fun i wr => ∃ (k : Nat) (u : Value), k ≤ qs.length ∧ i = .int .i64 k ∧ hsOk (qs.take k) = true ∧ PaI w2 n (hsL (qs.take k)) u wr) (fun i _ => qs.length - (RowKit.intOf i).toNat)
    case atStart => exact ⟨0, _, Nat.zero_le _, rfl, rfl, P3.out⟩
    case round =>
      obtain ⟨k, u, hk, rfl, hok, hpa⟩ := hrel
      have HK := Lib.hid hok
      have HP3 := Lib.hid hpa
      obtain ⟨ua, uc, rfl, hum⟩ := hpa.2.1.hs.shape
      rw [hsL_len, show (qs.take k).length = k by rw [List.length_take]; omega] at HP3
      clear hok hpa hum
      by_cases hlt : k < qs.length
      · obtain ⟨d', c', e', hm', hopen⟩ := (HS2.out.below HP3.out.2.2.1).shape
        rw [strVals_len, List.length_cons] at e' hopen
        obtain ⟨b', off', rfl, hc', hlt1, hx⟩ := hopen (by omega)
        simp only [Value.slice.injEq, Option.some.injEq, Addr.mk.injEq] at e'
        obtain ⟨⟨rfl, rfl, -⟩, -, -⟩ := e'
        have hcell := hx (k + 1) _ (cons_get rfl hlt)
        rw [show 0 + (k + 1) = 1 + k by omega] at hcell
        have i1 : (0 : Int) ≤ (k : Int) := by omega
        have i2 : (k : Int) < (qs.length : Int) := by omega
        have hz := HP.out.2 k hlt
        have HH := Lib.hid (i_parsehalf qs[k] (by omega))
        have HTK := Lib.hid (hsL_take hlt)
        have HN := Lib.hid (fun h => hsOk_not hlt h)
        have HY := Lib.hid (fun h => hsOk_take hlt HK.out h)
        generalize hph : parsH qs[k] = R at HH HTK HN HY
        obtain ⟨⟨l1, n2⟩, o⟩ := R
        simp only at HTK HN HY
        have BR := Lib.hid (B2.out.trans (HP3.out.2.2.1.mono B2.out.size))
        clear hx hopen hm' hc' hph hz
        go_wp2_with fail
        refine (HH.out _ (HV.out.below BR.out) (HM.out.below BR.out)).mono ?_
        rintro e w4 ⟨⟨v4, rfl, v5, rfl, ho4⟩, hb4⟩
        have B4 := Lib.hid (HP3.out.2.2.1.trans (hb4.mono HP3.out.2.2.1.size))
        have PB4 := Lib.hid (And.intro (HP3.out.1.below hb4) (HP3.out.2.1.below hb4))
        have HO4 := Lib.hid ho4
        have HZ4 := Lib.hid hb4.size
        have HZW := Lib.hid HP3.out.2.2.2
        obtain ⟨a5, c5, rfl, hm5⟩ := ho4.shape1
        rw [intVals_len] at hm5 HO4 ⊢
        simp only at HO4 hm5 ⊢
        clear ho4 hb4
        have K4 := Lib.hid (K2.out.below B4.out)
        cases o with
        | false =>
          have F := Lib.hid (parsRL_f2 (p := p) (HN.out rfl))
          have nb := below1 w4 (.cells #[.slice a5 l1.length c5, .int .i64 n2] 43)
          have B5 := Lib.hid (B2.out.trans ((B4.out.trans (nb.mono B4.out.size)).mono B2.out.size))
          obtain ⟨⟨p0, p1⟩, pf0, pf1⟩ := (K4.out.below nb).two
          clear nb
          go_wp2
          rw [F.out]
          refine bodyPost_ret (v := .tuple #[.agg #[.int .i64 0, .slice none 0 0], .bool false]) ?_ rfl ⟨⟨_, rfl, OwG.zero⟩, (B5.out.setCell (by simp) _).setCell (by simp) _⟩
          simp [results, Tryd.results11, go_sem, p0, p1]
        | true =>
          have HY2 := Lib.hid (HY.out rfl)
          have HLN := Lib.hid (show (hsL (qs.take k)).length = k by rw [hsL_len, List.length_take]; omega)
          have nb1 := below1 w4 (.cells #[.slice a5 l1.length c5, .int .i64 n2] 43)
          have nb2 := below2 w4 (.cells #[.slice a5 l1.length c5, .int .i64 n2] 43) (.cells #[.slice a5 l1.length c5, .int .i64 n2] 43)
          have KH := Lib.hid (Bk.new w4 #[.slice a5 l1.length c5, .int .i64 n2] 43)
          have PK7 := Lib.hid (PB4.out.1.below nb2)
          have PK6 := Lib.hid (PB4.out.1.below nb1)
          have PO7 := Lib.hid (PB4.out.2.below nb2)
          have PU7 := Lib.hid ((HO4.out.below nb2).mono (Nat.le_refl _) nb2.size)
          have HB7 := Lib.hid (B4.out.trans (nb2.mono B4.out.size))
          have HW7 := Lib.hid (Nat.le_trans HZ4.out nb2.size)
          clear nb1 nb2
          obtain ⟨⟨-, q1⟩, -, qf1⟩ := PK6.out.two
          obtain ⟨⟨m0, m1⟩, -⟩ := KH.out.two
          go_wp2_with (at_builtin; refine list_app_half rfl _ _ rfl (w2.heap.size + 1) wr.heap.size _ _ (hsL (qs.take k)) (l1, n2) rfl PO7.out PU7.out (w4.heap.size + 1) rfl (Bk.pair w4 _ _ _ _).2 (by rw [HLN.out]; omega) HZW.out HW7.out ?_; intro g7 cap7 w7 ho7 hb7 hd7 hg7; have PK8 := Lib.hid (PK7.out.since hb7 (Nat.lt_succ_self _)); have HO8 := Lib.hid ho7; have HB8 := Lib.hid (HB7.out.trans (hb7.mono (Nat.le_succ _))); have HZ8 := Lib.hid hg7.size; clear ho7 hb7 hd7 hg7; obtain ⟨⟨-, r1⟩, -, rf1⟩ := PK8.out.two)
          have HT9 := Lib.hid (show hsL (qs.take k) ++ [(l1, n2)] = hsL (qs.take (k + 1)) from HTK.out.symm)
          rw [HT9.out] at HO8
          rw [HLN.out] at HO8 ⊢
          exact ⟨⟨k + 1, _, by omega, by go_num, HY2.out, PK8.out.set1 _, (HO8.out.kept ((Kept.refl w2.heap.size (w2.heap.size + 1) w7).setCell (p := ⟨w2.heap.size, 1, none⟩) (Nat.le_refl _) (Nat.lt_succ_self _) _) (.inr (Nat.le_refl _))).mono (Nat.le_refl _) (by simp [World.setCell]), HB8.out.setCell (Nat.le_refl _) _, by have h1 := HW7.out; have h2 := HZ8.out; have h3 := HZW.out; simp only [World.setCell, Array.size_modify]; omega⟩, by simp [RowKit.intOf]; omega⟩
      · obtain rfl : k = qs.length := by omega
        have hk2 := HK.out
        have ha := HP3.out
        rw [List.take_length] at hk2 ha
        have HK2 := Lib.hid hk2
        have HA := Lib.hid ha
        have BR := Lib.hid (B2.out.trans (ha.2.2.1.mono B2.out.size))
        have KR := Lib.hid (K2.out.below ha.2.2.1)
        have ZR := Lib.hid K2.out.lt
        obtain ⟨⟨l0, l1⟩, -⟩ := ha.1.two
        clear hk2 ha hlt
        have HG := Lib.hid (show Rg wr (.agg #[.int .i64 n, .slice ua qs.length uc]) (n, hsL qs) from ⟨_, rfl, HA.out.2.1.hs⟩)
        by_cases cr : regOk n (hsL qs) = true
        · have CR := Lib.hid cr
          have F := Lib.hid (show parsRL (p :: qs) = ((n, hsL qs), true) by
            rw [parsRL_t HQ2.out HK2.out (by rw [HQ1.out]; exact CR.out), HQ1.out])
          clear cr
          go_wp2_with fail
          refine (i_isreg (n, hsL qs) _ _ HG.out).mono ?_
          rintro e w4 ⟨rfl, hb4⟩
          rw [show regOk (n, hsL qs).1 (n, hsL qs).2 = true from CR.out]
          have B4 := Lib.hid (BR.out.trans (hb4.mono BR.out.size))
          have A4 := Lib.hid (And.intro (HA.out.1.below hb4) (HA.out.2.1.below hb4))
          have Z4 := Lib.hid hb4.size
          obtain ⟨⟨p0, p1⟩, pf0, pf1⟩ := (KR.out.below hb4).two
          clear hb4 l0 l1
          obtain ⟨⟨l0, l1⟩, -⟩ := A4.out.1.two
          go_wp2
          rw [F.out]
          refine bodyPost_ret (v := .tuple #[.agg #[.int .i64 n, .slice ua qs.length uc], .bool true]) ?_ rfl ⟨⟨_, rfl, _, rfl, ?_⟩, (B4.out.setCell (by simp) _).setCell (by simp) _⟩
          · simp [results, Tryd.results11, go_sem, p0, p1]
          · have h1 := ZR.out
            have h2 := B2.out.size
            exact (A4.out.2.kept (((Kept.refl w.heap.size (w.heap.size + 1) w4).setCell (p := ⟨w.heap.size, 0, none⟩) (Nat.le_refl _) (Nat.lt_succ_self _) _).setCell (p := ⟨w.heap.size, 1, none⟩) (Nat.le_refl _) (Nat.lt_succ_self _) _) (.inr (by omega))).mono (by omega) (by have h3 := Z4.out; simp only [World.setCell, Array.size_modify]; omega)
        · have CR := Lib.hid (bool_f cr)
          have F := Lib.hid (parsRL_f3 (p := p) (qs := qs) (by rw [HQ1.out]; exact cr))
          clear cr
          go_wp2_with fail
          refine (i_isreg (n, hsL qs) _ _ HG.out).mono ?_
          rintro e w4 ⟨rfl, hb4⟩
          rw [show regOk (n, hsL qs).1 (n, hsL qs).2 = false from CR.out]
          have B4 := Lib.hid (BR.out.trans (hb4.mono BR.out.size))
          obtain ⟨⟨p0, p1⟩, pf0, pf1⟩ := (KR.out.below hb4).two
          clear hb4
          go_wp2
          rw [F.out]
          refine bodyPost_ret (v := .tuple #[.agg #[.int .i64 0, .slice none 0 0], .bool false]) ?_ rfl ⟨⟨_, rfl, OwG.zero⟩, (B4.out.setCell (by simp) _).setCell (by simp) _⟩
          simp [results, Tryd.results11, go_sem, p0, p1]
end Go.Proofs.YtflkalgofkpdbaaDoor
/- The measure of halves and regions. -/
namespace Go.Proofs.YtflkalgofkpdbaaDoor
open Go.RowKit Go.Lib

theorem szI_small {left n : Int} (h : left < n) : szI left n = -1 := if_pos h
theorem szI_fits {left n : Int} (h : ¬ left < n) : szI left n = left - n := if_neg h
theorem szHs_small {hs : List Hf} {left : Int} (h : left < hs.length + totN hs) : szHs hs left = -1 := if_pos h
theorem szHs_fits {hs : List Hf} {left : Int} (h : ¬ left < hs.length + totN hs) : szHs hs left = left - hs.length - totN hs := if_neg h

set_option maxRecDepth 100000 in
set_option maxHeartbeats 400000 in
theorem sz_half (h : Hf) (v : Value) (left : Int) (w : World) (hv : Hv w v h) (h1 : 0 ≤ left) (h2 : left ≤ 1048576) :
    Calls Tryd.prog 32 #[v, .int .i64 left] w (Quiet w (.int .i64 (szI left h.1.length))) := by
  obtain ⟨u, rfl, hs⟩ := hv
  have HS := Lib.hid hs
  have B0 := Lib.hid (below1 w (.cells #[u, .int .i64 h.2] 57))
  clear hs
  by_cases hf : left < h.1.length
  · have E := Lib.hid (szI_small hf)
    clear hf
    go_enter Tryd.func32, Tryd.ntmps32
    go_wp2_with fail
    refine (sz_int h.1 u left _ (HS.out.below B0.out) (by omega) h2).mono ?_
    rintro e w1 ⟨rfl, rfl⟩
    rw [E.out]
    go_wp2_with fail
    go_ret
    exact ⟨ret_int E.out.symm, B0.out⟩
  · have E := Lib.hid (szI_fits hf)
    have h5 : ¬ left - h.1.length < 0 := by omega
    clear hf
    go_enter Tryd.func32, Tryd.ntmps32
    go_wp2_with fail
    refine (sz_int h.1 u left _ (HS.out.below B0.out) (by omega) h2).mono ?_
    rintro e w1 ⟨rfl, rfl⟩
    rw [E.out]
    go_wp2_with fail
    go_ret
    exact ⟨ret_int E.out.symm, B0.out⟩

set_option maxRecDepth 100000 in
set_option maxHeartbeats 800000 in
theorem sz_halfs (hs : List Hf) (v : Value) (left : Int) (w : World) (hv : Hs w v hs) (h1 : 0 ≤ left) (h2 : left ≤ 1048576) :
    Calls Tryd.prog 14 #[v, .int .i64 left] w (Quiet w (.int .i64 (szHs hs left))) := by
  have HV := Lib.hid hv
  obtain ⟨a, c, rfl, hm⟩ := hv.shape
  unfold maxLen at hm
  clear hv
  by_cases h : left < hs.length
  · have e := Lib.hid (szHs_small (hs := hs) (left := left) (by omega))
    have h3 : left - hs.length < 0 := by omega
    go_enter Tryd.func14, Tryd.ntmps14
    go_wp2
    go_ret
    exact ⟨ret_int e.out.symm, Below.refl _ _⟩
  · have h3 : ¬ left - hs.length < 0 := by omega
    go_enter Tryd.func14, Tryd.ntmps14
    go_wp2
    go_loopw [1, 5] (fun q i wr => ∃ (k : Nat) (l : Int), k ≤ hs.length ∧ i = .int .i64 k ∧ q = .int .i64 l ∧ l = left - hs.length - totN (hs.take k) ∧ 0 ≤ l ∧ Below w.heap.size w wr) (fun _ i _ => hs.length - (RowKit.intOf i).toNat)
    case atStart => exact ⟨0, _, Nat.zero_le _, rfl, rfl, by simp [totN], by omega, Below.refl _ _⟩
    case round =>
      obtain ⟨k, l, hk, rfl, rfl, hl, hl0, hbr⟩ := hrel
      have HL := Lib.hid hl
      have hl2 : l ≤ 1048576 := by omega
      clear hl
      have HB := Lib.hid hbr
      by_cases hlt : k < hs.length
      · obtain ⟨b, off, u, rfl, hcc, hb2, hcell, hcell1, hsl⟩ := HV.out.half k hlt rfl
        rw [← hbr.cell (p := ⟨b, off + k * 2, none⟩) hb2] at hcell
        rw [← hbr.cell (p := ⟨b, off + k * 2 + 1, none⟩) hb2] at hcell1
        have HS := Lib.hid (hsl.below hbr)
        have TT := Lib.hid (totN_take hlt)
        clear hsl hbr
        by_cases hfit : l < hs[k].1.length
        · have E := Lib.hid (szI_small hfit)
          have ER := Lib.hid (szHs_small (hs := hs) (left := left) (by have h5 := totN_take_le hs (k + 1); rw [TT.out] at h5; have := HL.out; omega))
          go_wp2_with fail
          refine (sz_half hs[k] _ l _ ⟨u, rfl, HS.out⟩ hl0 hl2).mono ?_
          rintro e w1 ⟨rfl, hb1⟩
          rw [E.out]
          have HB1 := Lib.hid (HB.out.trans (hb1.mono HB.out.size))
          go_wp2_with fail
          go_ret
          exact ⟨ret_int ER.out.symm, HB1.out⟩
        · have E := Lib.hid (szI_fits hfit)
          have h5 : ¬ l - hs[k].1.length < 0 := by omega
          go_wp2_with fail
          refine (sz_half hs[k] _ l _ ⟨u, rfl, HS.out⟩ hl0 hl2).mono ?_
          rintro e w1 ⟨rfl, hb1⟩
          rw [E.out]
          have HB1 := Lib.hid (HB.out.trans (hb1.mono HB.out.size))
          go_wp2_with fail
          exact ⟨⟨k + 1, _, by omega, by go_num, rfl, by rw [TT.out, HL.out]; omega, by omega, HB1.out⟩, by simp [RowKit.intOf]; omega⟩
      · obtain rfl : k = hs.length := by omega
        have ER := Lib.hid (show l = szHs hs left by have h6 := HL.out; rw [List.take_length] at h6; rw [szHs_fits (by omega), h6])
        clear hbr
        go_wp2
        go_ret
        exact ⟨ret_int ER.out, HB.out⟩

set_option maxRecDepth 100000 in
set_option maxHeartbeats 400000 in
theorem sz_region (r : Rgn) (v : Value) (left : Int) (w : World) (hv : Rg w v r) (h1 : 0 ≤ left) (h2 : left ≤ 1048576) :
    Calls Tryd.prog 5 #[v, .int .i64 left] w (Quiet w (.int .i64 (szHs r.2 left))) := by
  obtain ⟨u, rfl, hs⟩ := hv
  have HS := Lib.hid hs
  have B0 := Lib.hid (below1 w (.cells #[.int .i64 r.1, u] 24))
  clear hs
  by_cases hf : left < r.2.length + totN r.2
  · have E := Lib.hid (szHs_small hf)
    clear hf
    go_enter Tryd.func5, Tryd.ntmps5
    go_wp2_with fail
    refine (sz_halfs r.2 u left _ (HS.out.below B0.out) h1 h2).mono ?_
    rintro e w1 ⟨rfl, hb1⟩
    rw [E.out]
    have HB1 := Lib.hid (B0.out.trans (hb1.mono B0.out.size))
    go_wp2_with fail
    go_ret
    exact ⟨ret_int E.out.symm, HB1.out⟩
  · have E := Lib.hid (szHs_fits hf)
    have h5 : ¬ left - r.2.length - totN r.2 < 0 := by omega
    clear hf
    go_enter Tryd.func5, Tryd.ntmps5
    go_wp2_with fail
    refine (sz_halfs r.2 u left _ (HS.out.below B0.out) h1 h2).mono ?_
    rintro e w1 ⟨rfl, hb1⟩
    rw [E.out]
    have HB1 := Lib.hid (B0.out.trans (hb1.mono B0.out.size))
    go_wp2_with fail
    go_ret
    exact ⟨ret_int E.out.symm, HB1.out⟩
end Go.Proofs.YtflkalgofkpdbaaDoor
/- The laws' marks on slices of integers: markIntS, heldIntS. -/
namespace Go.Proofs.YtflkalgofkpdbaaDoor
open Go.RowKit Go.Lib

/-- Marks from k on. -/
def imarks (k n : Nat) : List Int := (List.range n).map fun i => ((k + i : Nat) : Int)
theorem imarks_len (k n : Nat) : (imarks k n).length = n := by simp [imarks]
theorem imarks_get (k n i : Nat) (h : i < n) : (imarks k n)[i]'(by rw [imarks_len]; exact h) = ((k + i : Nat) : Int) := by simp [imarks]
theorem imarks_step (k j : Nat) (zs : List Int) (h : j < zs.length) :
    (intVals (imarks k j ++ zs.drop j)).set j (.int .i64 (k + j : Nat)) = intVals (imarks k (j + 1) ++ zs.drop (j + 1)) := by
  have hl : (intVals (imarks k j)).length = j := by rw [intVals_len, imarks_len]
  have e : intVals (imarks k j ++ zs.drop j) = intVals (imarks k j) ++ intVals (zs.drop j) := by simp [intVals]
  rw [e, List.set_append_right _ _ (by omega), hl, Nat.sub_self, List.drop_eq_getElem_cons h]
  have e2 : ∀ u, (intVals (zs[j] :: zs.drop (j + 1))).set 0 u = u :: intVals (zs.drop (j + 1)) := fun _ => rfl
  rw [e2]
  simp only [intVals, imarks, List.range_succ, List.map_append, List.map_cons, List.map_nil, List.append_assoc, List.cons_append, List.nil_append]

set_option maxRecDepth 100000 in
set_option maxHeartbeats 400000 in
theorem mark_int_some (zs : List Int) (base g cap k : Nat) (w : World) (hk : 1 ≤ k) (hb : k + zs.length ≤ 4611686018427387904) (how : w.ownsRow base 3 1 (.slice (some ⟨g, 0, none⟩) zs.length cap) zs.length (intVals zs)) :
    Calls Tryd.prog 49 #[.slice (some ⟨g, 0, none⟩) zs.length cap, .int .i64 k] w fun e w' => e = .returned (.int .i64 (k + zs.length : Nat)) ∧ w'.ownsRow base 3 1 (.slice (some ⟨g, 0, none⟩) zs.length cap) zs.length (intVals (imarks k zs.length)) ∧ Kept g (g + 1) w w' := by
  have hgb := (how.lt g rfl).1
  have hgl := (how.lt g rfl).2
  have HW := Lib.hid how
  clear how
  go_enter Tryd.func49, Tryd.ntmps49
  go_wp2
  go_loopw [1, 5] (fun q i wr => ∃ j : Nat, j ≤ zs.length ∧ i = .int .i64 j ∧ q = .int .i64 (k + j : Nat) ∧ wr.ownsRow base 3 1 (.slice (some ⟨g, 0, none⟩) zs.length cap) zs.length (intVals (imarks k j ++ zs.drop j)) ∧ Kept g (g + 1) w wr) (fun _ i _ => zs.length - (RowKit.intOf i).toNat)
  case atStart => exact ⟨0, Nat.zero_le _, rfl, by simp, by simpa [imarks] using HW.out, Kept.refl _ _ _⟩
  case round =>
    obtain ⟨j, hj, rfl, rfl, hor, hbr⟩ := hrel
    have HO := Lib.hid hor
    have HB := Lib.hid hbr
    clear hor hbr
    by_cases hlt : j < zs.length
    · have hmine := HO.out.cellAt j (by omega)
      rw [intVals_get _ _ (by rw [List.length_append, imarks_len, List.length_drop]; omega)] at hmine
      have hfree := HO.out.frozenAt j
      have HS := Lib.hid (HO.out.stored j (.int .i64 (k + j : Nat)))
      go_wp2
      have h2 := HS.out.1
      rw [imarks_step k j zs hlt] at h2
      exact ⟨⟨j + 1, by omega, by go_num, by go_num, h2, HB.out.setCell (Nat.le_refl _) (Nat.lt_succ_self _) _⟩, by simp [RowKit.intOf]; omega⟩
    · obtain rfl : j = zs.length := by omega
      go_wp2
      go_ret
      have h2 := HO.out
      rw [List.drop_length, List.append_nil] at h2
      exact ⟨rfl, h2, HB.out⟩
set_option maxRecDepth 100000 in
set_option maxHeartbeats 400000 in
theorem mark_int_none (k : Nat) (w : World) (_hk : 1 ≤ k) :
    Calls Tryd.prog 49 #[.slice none 0 0, .int .i64 k] w fun e w' => e = .returned (.int .i64 (k : Nat)) ∧ w = w' := by
  go_enter Tryd.func49, Tryd.ntmps49
  go_wp2
  refine wp_loop_rounds 1 ?_
  rw [rounds_succ]
  go_wp2
  go_ret
  exact ⟨rfl, rfl⟩
/-- markIntS on a row of its own. -/
theorem mark_int (zs : List Int) (lo hi k n : Nat) (v : Value) (w : World) (hk : 1 ≤ k) (hn : k + zs.length = n) (hb : n ≤ 4611686018427387904) (how : OwnV 3 lo hi w v (intVals zs)) :
    Calls Tryd.prog 49 #[v, .int .i64 k] w fun e w' => e = .returned (.int .i64 n) ∧ OwnV 3 lo hi w' v (intVals (imarks k zs.length)) ∧ Kept lo hi w w' := by
  subst hn
  rcases how with ⟨h0, rfl⟩ | ⟨g, cap, cur, rfl, h1, h2, hr⟩
  · have h0 : zs = [] := by simpa [intVals] using h0
    subst h0
    exact (mark_int_none k w hk).mono fun e w' ⟨he, hw⟩ => by subst hw; exact ⟨he, .inl ⟨rfl, rfl⟩, Kept.refl _ _ _⟩
  · have ho : w.ownsRow g 3 1 (.slice (some ⟨g, 0, none⟩) (intVals zs).length cap) (intVals zs).length (intVals zs) := (show OwnV 3 g (g + 1) w _ (intVals zs) from .inr ⟨g, cap, cur, rfl, Nat.le_refl _, Nat.lt_succ_self _, hr⟩).owns
    rw [intVals_len] at ho ⊢
    refine (mark_int_some zs g g cap k w hk hb ho).mono fun e w' ⟨he, hm, hkk⟩ => ⟨he, ?_, hkk.mono h1 h2⟩
    rcases OwnV.of_owns hm with ⟨_, hh⟩ | ⟨g', cap', cur', hv, h3, h4, h5⟩
    · simp at hh
    · have hg : g = g' := by simpa using (congrArg (fun v => match v with | Value.slice (some a) _ _ => a.block | _ => 0) hv)
      subst hg
      exact .inr ⟨g, cap', cur', hv, h1, h2, h5⟩

set_option maxRecDepth 100000 in
set_option maxHeartbeats 800000 in
theorem held_int (v : Value) (n k m : Nat) (w : World) (hk : 1 ≤ k) (hn : k + n = m) (hb : m ≤ 4611686018427387904) (hv : Sl w v (intVals (imarks k n))) :
    Calls Tryd.prog 50 #[v, .int .i64 k] w fun e w' => e = .returned (.int .i64 m) ∧ Below w.heap.size w w' := by
  subst hn
  obtain ⟨a, c, rfl, hm, hopen⟩ := hv.shape
  rw [intVals_len, imarks_len] at hm hopen ⊢
  have HO := Lib.hid hopen
  clear hopen hv hm
  go_enter Tryd.func50, Tryd.ntmps50
  go_wp2
  go_loopw [1, 5] (fun q i wr => ∃ j : Nat, j ≤ n ∧ i = .int .i64 j ∧ q = .int .i64 (k + j : Nat) ∧ Below w.heap.size w wr) (fun _ i _ => n - (RowKit.intOf i).toNat)
  case atStart => exact ⟨0, Nat.zero_le _, rfl, by simp, Below.refl _ _⟩
  case round =>
    obtain ⟨j, hj, rfl, rfl, hbr⟩ := hrel
    by_cases hlt : j < n
    · obtain ⟨b, off, rfl, hc, hlt2, hx⟩ := HO.out (by omega)
      have hcell := hx j _ (intVals_get _ _ (by rw [imarks_len]; exact hlt))
      rw [imarks_get k n j hlt, ← hbr.cell (p := ⟨b, off + j, none⟩) hlt2] at hcell
      have i1 : (0 : Int) ≤ (j : Int) := by omega
      have i2 : (j : Int) < (n : Int) := by omega
      have HB := Lib.hid hbr
      clear hx hbr
      go_wp2
      exact ⟨⟨j + 1, by omega, by go_num, by go_num, HB.out⟩, by simp [RowKit.intOf]; omega⟩
    · obtain rfl : j = n := by omega
      go_wp2
      go_ret
      exact ⟨rfl, hbr⟩
end Go.Proofs.YtflkalgofkpdbaaDoor
/- The laws' marks on slices of slices of integers. -/
namespace Go.Proofs.YtflkalgofkpdbaaDoor
open Go.RowKit Go.Lib

/-- How far the marks have come: the first j rows bear them. -/
def marked (k j : Nat) (zss : List (List Int)) : List (List Int) := (rmarks k zss).take j ++ zss.drop j
theorem marked_len (k j : Nat) (zss : List (List Int)) : (marked k j zss).length = zss.length := by unfold marked; rw [List.length_append, List.length_take, List.length_drop, rmarks_len]; omega
theorem marked_zero (k : Nat) (zss : List (List Int)) : marked k 0 zss = zss := by simp [marked]
theorem marked_all (k : Nat) (zss : List (List Int)) : marked k zss.length zss = rmarks k zss := by unfold marked; rw [List.drop_length, List.append_nil, List.take_of_length_le (by rw [rmarks_len]; exact Nat.le_refl _)]
theorem marked_get (k j i : Nat) (zss : List (List Int)) : (marked k j zss)[i]? = if i < j then (rmarks k zss)[i]? else zss[i]? := by
  unfold marked
  by_cases h : i < j
  · rw [if_pos h]
    by_cases h2 : i < zss.length
    · rw [List.getElem?_append_left (by rw [List.length_take, rmarks_len]; omega), List.getElem?_take_of_lt h]
    · rw [List.getElem?_eq_none (by rw [List.length_append, List.length_take, List.length_drop, rmarks_len]; omega), List.getElem?_eq_none (by rw [rmarks_len]; omega)]
  · rw [if_neg h]
    by_cases h2 : j ≤ zss.length
    · rw [List.getElem?_append_right (by rw [List.length_take, rmarks_len]; omega), List.length_take, rmarks_len, List.getElem?_drop]
      congr 1; omega
    · rw [List.getElem?_eq_none (by rw [List.length_append, List.length_take, List.length_drop, rmarks_len]; omega), List.getElem?_eq_none (by omega)]
theorem marked_step (k j : Nat) (zss : List (List Int)) (h : j < zss.length) : (marked k j zss).set j (imarks (k + tot (zss.take j)) zss[j].length) = marked k (j + 1) zss := by
  refine List.ext_getElem? fun i => ?_
  rw [get_set _ _ _ _ (by rw [marked_len]; exact h), marked_get, marked_get]
  by_cases hij : i = j
  · subst hij
    rw [if_pos rfl, if_pos (Nat.lt_succ_self _), rmarks_get k zss i h]; rfl
  · rw [if_neg hij]
    by_cases hlt : i < j
    · rw [if_pos hlt, if_pos (by omega)]
    · rw [if_neg hlt, if_neg (by omega)]
theorem marked_at (k j : Nat) (zss : List (List Int)) (h : j < zss.length) : (marked k j zss)[j]'(by rw [marked_len]; exact h) = zss[j] := by
  have h1 : (marked k j zss)[j]? = zss[j]? := by rw [marked_get, if_neg (Nat.lt_irrefl _)]
  rw [List.getElem?_eq_getElem (by rw [marked_len]; exact h), List.getElem?_eq_getElem h] at h1
  exact Option.some.inj h1

/-- markIntS on a row, whatever lies beside it. -/
theorem mark_row (zs : List Int) (lo hi k n : Nat) (v : Value) (w : World) (hk : 1 ≤ k) (hn : k + zs.length = n) (hb : n ≤ 4611686018427387904) (how : OwnV 3 lo hi w v (intVals zs)) :
    Calls Tryd.prog 49 #[v, .int .i64 k] w fun e w' => e = .returned (.int .i64 n) ∧ OwnV 3 lo hi w' v (intVals (imarks k zs.length)) ∧ (∀ g, (∀ b, v.ownBlock = some b → b = g) → Kept g (g + 1) w w') ∧ Kept lo hi w w' := by
  rcases how with ⟨h0, rfl⟩ | ⟨g, cap, cur, rfl, h1, h2, hr⟩
  · have h0 : zs = [] := by simpa [intVals] using h0
    subst h0
    simp only [List.length_nil, Nat.add_zero] at hn
    subst hn
    exact (mark_int_none k w hk).mono fun e w' ⟨he, hw⟩ => by subst hw; exact ⟨he, .inl ⟨rfl, rfl⟩, fun g _ => Kept.refl _ _ _, Kept.refl _ _ _⟩
  · have ho : OwnV 3 g (g + 1) w (.slice (some ⟨g, 0, none⟩) (intVals zs).length cap) (intVals zs) := .inr ⟨g, cap, cur, rfl, Nat.le_refl _, Nat.lt_succ_self _, hr⟩
    refine (mark_int zs g (g + 1) k n _ w hk hn hb ho).mono fun e w' ⟨he, hm, hkk⟩ => ⟨he, hm.mono h1 h2, fun b hb => ?_, hkk.mono h1 h2⟩
    obtain rfl := hb g rfl
    exact hkk

end Go.Proofs.YtflkalgofkpdbaaDoor
/- The laws' marks on halves and regions. -/
namespace Go.Proofs.YtflkalgofkpdbaaDoor
open Go.RowKit Go.Lib

/-- A step that changes the normal in place j alone. -/
theorem OwH.norm {T e : TypeId} {lo hi : Nat} {w w' : World} {hs : List Hf} {b n c : Nat} (h : OwH T e lo hi w (.slice (some ⟨b, 0, none⟩) n c) hs) (j : Nat) (hj : j < hs.length) {u : Value} (hc : w.cell? ⟨b, j * 2, none⟩ = some u) {ys : List Int}
    (hys : OwnV e lo hi w' u (intVals ys)) (hk : ∀ g, (∀ x, u.ownBlock = some x → x = g) → Kept g (g + 1) w w') : OwH T e lo hi w' (.slice (some ⟨b, 0, none⟩) n c) (hs.set j (ys, hs[j].2)) := by
  obtain ⟨us, k1, k2, k3, k4, k5, k6⟩ := h
  obtain ⟨g, cap, e1⟩ := Go.Joins.ownsRow_form k2 (by omega)
  simp only [Value.slice.injEq, Option.some.injEq, Addr.mk.injEq] at e1
  obtain ⟨⟨rfl, _, _⟩, rfl, rfl⟩ := e1
  rw [k2.cellAt (j * 2) (by omega), flat_get0 us hs j k1] at hc
  have far : ∀ g, g < w.heap.size → u.ownBlock ≠ some g → w'.heap[g]? = w.heap[g]? := by
    intro g hg hne
    cases hub : u.ownBlock with
    | none => exact (hk (g + 1) (fun x hx => by rw [hub] at hx; cases hx)).block g hg (.inl (Nat.lt_succ_self _))
    | some q =>
      have hq : q ≠ g := fun e => hne (by rw [hub, e])
      exact (hk q (fun x hx => by rw [hub] at hx; exact (Option.some.inj hx).symm)).block g hg (by omega)
  have hfl : flat us (hs.set j (ys, hs[j].2)) = flat us hs := flat_congr _ _ _ (by
    rw [List.map_set]
    exact List.ext_getElem (by simp) fun i h1 h2 => by
      rw [List.getElem_set]; split
      · rename_i hij; subst hij; simp
      · rfl)
  refine ⟨us, by rw [List.length_set, k1], ?_, k3, ?_, k5, k6⟩
  · rw [hfl, List.length_set]
    refine ⟨k2.1, ?_⟩
    rcases k2.2 with h2 | ⟨g, cap, cur, e2, hg, hh, hr⟩
    · exact .inl h2
    · have hbg : b = g := by
        simp only [Value.slice.injEq, Option.some.injEq, Addr.mk.injEq] at e2
        exact e2.1.1
      exact .inr ⟨g, cap, cur, e2, hg, by rw [far g (lt_of_heap hh) (by rw [← hbg]; exact fun hub => k6 j u b hc hub rfl)]; exact hh, hr⟩
  · intro i x z hx hz
    rw [get_set _ _ _ _ hj] at hz
    split at hz
    · rename_i hij
      subst hij
      rw [hc] at hx
      obtain rfl := Option.some.inj hx
      obtain rfl := Option.some.inj hz
      exact hys
    · rename_i hij
      exact kept_far hk (k4 i x z hx hz) (fun q hq => k5 j i _ x q (fun e => hij e.symm) hc hx hq)

/-- How far the marks have come: the first j halves bear them. -/
def hmarked (k j : Nat) (hs : List Hf) : List Hf := (hmarks k hs).take j ++ hs.drop j
theorem hmarked_len (k j : Nat) (hs : List Hf) : (hmarked k j hs).length = hs.length := by unfold hmarked; rw [List.length_append, List.length_take, List.length_drop, hmarks_len]; omega
theorem hmarked_zero (k : Nat) (hs : List Hf) : hmarked k 0 hs = hs := by simp [hmarked]
theorem hmarked_all (k : Nat) (hs : List Hf) : hmarked k hs.length hs = hmarks k hs := by unfold hmarked; rw [List.drop_length, List.append_nil, List.take_of_length_le (by rw [hmarks_len]; exact Nat.le_refl _)]
theorem hmarked_get (k j i : Nat) (hs : List Hf) : (hmarked k j hs)[i]? = if i < j then (hmarks k hs)[i]? else hs[i]? := by
  unfold hmarked
  by_cases h : i < j
  · rw [if_pos h]
    by_cases h2 : i < hs.length
    · rw [List.getElem?_append_left (by rw [List.length_take, hmarks_len]; omega), List.getElem?_take_of_lt h]
    · rw [List.getElem?_eq_none (by rw [List.length_append, List.length_take, List.length_drop, hmarks_len]; omega), List.getElem?_eq_none (by rw [hmarks_len]; omega)]
  · rw [if_neg h]
    by_cases h2 : j ≤ hs.length
    · rw [List.getElem?_append_right (by rw [List.length_take, hmarks_len]; omega), List.length_take, hmarks_len, List.getElem?_drop]
      congr 1; omega
    · rw [List.getElem?_eq_none (by rw [List.length_append, List.length_take, List.length_drop, hmarks_len]; omega), List.getElem?_eq_none (by omega)]
theorem hmarked_step (k j : Nat) (hs : List Hf) (h : j < hs.length) : (hmarked k j hs).set j (imarks (k + totH (hs.take j)) hs[j].1.length, ((k + totH (hs.take j) + hs[j].1.length : Nat) : Int)) = hmarked k (j + 1) hs := by
  refine List.ext_getElem? fun i => ?_
  rw [get_set _ _ _ _ (by rw [hmarked_len]; exact h), hmarked_get, hmarked_get]
  by_cases hij : i = j
  · subst hij
    rw [if_pos rfl, if_pos (Nat.lt_succ_self _), hmarks_get k hs i h]; rfl
  · rw [if_neg hij]
    by_cases hlt : i < j
    · rw [if_pos hlt, if_pos (by omega)]
    · rw [if_neg hlt, if_neg (by omega)]
theorem hmarked_at (k j : Nat) (hs : List Hf) (h : j < hs.length) : (hmarked k j hs)[j]'(by rw [hmarked_len]; exact h) = hs[j] := by
  have h1 : (hmarked k j hs)[j]? = hs[j]? := by rw [hmarked_get, if_neg (Nat.lt_irrefl _)]
  rw [List.getElem?_eq_getElem (by rw [hmarked_len]; exact h), List.getElem?_eq_getElem h] at h1
  exact Option.some.inj h1
theorem totH_take_le (hs : List Hf) (k : Nat) : totH (hs.take k) ≤ totH hs := by
  unfold totH
  conv => rhs; rw [← List.take_append_drop k hs, List.map_append, List.sum_append]
  omega

set_option maxRecDepth 100000 in
set_option maxHeartbeats 800000 in
theorem mark_halfs (hs : List Hf) (lo hi k n : Nat) (v : Value) (w : World) (hk : 1 ≤ k) (hn : k + totH hs = n) (hb : n ≤ 4611686018427387904) (how : OwH 43 3 lo hi w v hs) :
    Calls Tryd.prog 30 #[v, .int .i64 k] w fun e w' => e = .returned (.int .i64 n) ∧ OwH 43 3 lo hi w' v (hmarks k hs) ∧ Kept lo hi w w' := by
  subst hn
  obtain ⟨a, c, rfl, hm⟩ := how.hs.shape
  have hs0 : OwH 43 3 lo hi w (.slice a hs.length c) (hmarked k 0 hs) := by rw [hmarked_zero]; exact how
  unfold maxLen at hm
  have HS := Lib.hid hs0
  clear hs0 how
  go_enter Tryd.func30, Tryd.ntmps30
  go_wp2
  go_loopw [1, 5] (fun q i wr => ∃ j : Nat, j ≤ hs.length ∧ i = .int .i64 j ∧ q = .int .i64 (k + totH (hs.take j) : Nat) ∧ OwH 43 3 lo hi wr (.slice a hs.length c) (hmarked k j hs) ∧ Kept lo hi w wr) (fun _ i _ => hs.length - (RowKit.intOf i).toNat)
  case atStart => exact ⟨0, Nat.zero_le _, rfl, by simp [totH], HS.out, Kept.refl _ _ _⟩
  case round =>
    obtain ⟨j, hj, rfl, rfl, how, hkp⟩ := hrel
    have HK := Lib.hid hkp
    have HO := Lib.hid how
    by_cases hlt : j < hs.length
    · have hml : j < (hmarked k j hs).length := by rw [hmarked_len]; exact hlt
      obtain ⟨b, u, rfl, hb1, hb2, hb3, hcell, hcell1, _, _, hrow, hub⟩ := how.at j hml rfl
      have MA := Lib.hid (hmarked_at k j hs hlt)
      rw [MA.out] at hrow hcell1
      have TT := Lib.hid (totH_take hlt)
      have htl := totH_take_le hs (j + 1)
      rw [TT.out] at htl
      have HR := Lib.hid hrow
      have HC := Lib.hid hcell
      have ST := Lib.hid (hmarked_step k j hs hlt)
      clear how hrow hkp
      obtain ⟨q, hq⟩ : ∃ q : Nat, k + totH (hs.take j) = q := ⟨_, rfl⟩
      have hq1 : 1 ≤ q := by omega
      have HQ := Lib.hid hq
      have hq2 : q + hs[j].1.length + 1 ≤ 4611686018427387904 := by omega
      rw [hq]
      rw [hq] at ST
      clear hq
      go_wp2_with fail
      refine (mark_row hs[j].1 lo hi q (q + hs[j].1.length) u _ hq1 rfl (by have := HQ.out; omega) HR.out).mono ?_
      rintro e w1 ⟨rfl, hm1, hf1, hk1⟩
      have HN := Lib.hid (HO.out.norm j hml HC.out hm1 hf1)
      have HK1 := Lib.hid (HK.out.trans hk1)
      obtain ⟨b', u', e1, p1, p2, p3, d0, d1, fr0, fr1, _, _⟩ := HN.out.at j (by rw [List.length_set]; exact hml) rfl
      simp only [Option.some.injEq, Addr.mk.injEq, and_true] at e1
      subst e1
      have HM := Lib.hid (HN.out.bound j (by rw [List.length_set]; exact hml) ((q + hs[j].1.length : Nat) : Int))
      clear hm1 hf1 hk1
      go_wp2_with fail
      refine ⟨⟨j + 1, by omega, by go_num, ?_, ?_, HK1.out.setCell (p := ⟨b, j * 2 + 1, none⟩) hb1 hb2 _⟩, by simp [RowKit.intOf]; omega⟩
      · rw [TT.out, ← HQ.out]; exact int_eq (by omega)
      · have h2 := HM.out
        rw [List.set_set, List.getElem_set_self, ST.out] at h2
        exact h2
    · obtain rfl : j = hs.length := by omega
      clear how hkp
      go_wp2
      go_ret
      have h2 := HO.out
      rw [hmarked_all] at h2
      exact ⟨ret_int (by rw [List.take_length]), h2, HK.out⟩

set_option maxRecDepth 100000 in
set_option maxHeartbeats 800000 in
theorem held_halfs (v : Value) (hs : List Hf) (k m : Nat) (w : World) (hk : 1 ≤ k) (hn : k + totH hs = m) (hb : m ≤ 4611686018427387904) (hv : Hs w v (hmarks k hs)) :
    Calls Tryd.prog 31 #[v, .int .i64 k] w (Quiet w (.int .i64 m)) := by
  subst hn
  have HV := Lib.hid hv
  obtain ⟨a, c, rfl, hm⟩ := hv.shape
  rw [hmarks_len] at hm HV ⊢
  unfold maxLen at hm
  clear hv
  go_enter Tryd.func31, Tryd.ntmps31
  go_wp2
  go_loopw [1, 5] (fun q i wr => ∃ j : Nat, j ≤ hs.length ∧ i = .int .i64 j ∧ q = .int .i64 (k + totH (hs.take j) : Nat) ∧ Below w.heap.size w wr) (fun _ i _ => hs.length - (RowKit.intOf i).toNat)
  case atStart => exact ⟨0, Nat.zero_le _, rfl, by simp [totH], Below.refl _ _⟩
  case round =>
    obtain ⟨j, hj, rfl, rfl, hbr⟩ := hrel
    have HB := Lib.hid hbr
    by_cases hlt : j < hs.length
    · obtain ⟨b, off, u, rfl, hcc, hb2, hcell, hcell1, hsl⟩ := HV.out.half j (by rw [hmarks_len]; exact hlt) (by rfl)
      have hgj : (hmarks k hs)[j]'(by rw [hmarks_len]; exact hlt) = (imarks (k + totH (hs.take j)) hs[j].1.length, ((k + totH (hs.take j) + hs[j].1.length : Nat) : Int)) := by
        have h1 := hmarks_get k hs j hlt
        rw [List.getElem?_eq_getElem (by rw [hmarks_len]; exact hlt)] at h1
        exact Option.some.inj h1
      rw [hgj] at hsl hcell1
      have TT := Lib.hid (totH_take hlt)
      have htl := totH_take_le hs (j + 1)
      rw [TT.out] at htl
      obtain ⟨q, hq⟩ : ∃ q : Nat, k + totH (hs.take j) = q := ⟨_, rfl⟩
      have hq1 : 1 ≤ q := by omega
      have HQ := Lib.hid hq
      have hq2 : q + hs[j].1.length + 1 ≤ 4611686018427387904 := by omega
      rw [hq] at hsl hcell1 ⊢
      clear hq hgj
      rw [← hbr.cell (p := ⟨b, off + j * 2, none⟩) hb2] at hcell
      have hcell2 := hcell1
      rw [← hbr.cell (p := ⟨b, off + j * 2 + 1, none⟩) hb2] at hcell1
      have HS := Lib.hid (hsl.below hbr)
      clear hsl hbr
      go_wp2_with fail
      refine (held_int u hs[j].1.length q (q + hs[j].1.length) _ hq1 rfl (by omega) HS.out).mono ?_
      rintro e w1 ⟨rfl, hb1⟩
      have HB1 := Lib.hid (HB.out.trans (hb1.mono HB.out.size))
      rw [← HB1.out.cell (p := ⟨b, off + j * 2 + 1, none⟩) hb2] at hcell2
      clear hb1 hcell1
      go_wp2_with fail
      exact ⟨⟨j + 1, by omega, by go_num, by rw [TT.out, ← HQ.out]; exact int_eq (by omega), HB1.out⟩, by simp [RowKit.intOf]; omega⟩
    · obtain rfl : j = hs.length := by omega
      clear hbr
      go_wp2
      go_ret
      exact ⟨ret_int (by rw [List.take_length]), HB.out⟩

def rgmarks (k : Nat) (r : Rgn) : Rgn := (r.1, hmarks k r.2)
set_option maxRecDepth 100000 in
set_option maxHeartbeats 400000 in
theorem mark_region (r : Rgn) (lo hi k n : Nat) (v : Value) (w : World) (hk : 1 ≤ k) (hn : k + totH r.2 = n) (hb : n ≤ 4611686018427387904) (how : OwG lo hi w v r) :
    Calls Tryd.prog 12 #[v, .int .i64 k] w fun e w' => e = .returned (.int .i64 n) ∧ OwG lo hi w' v (rgmarks k r) ∧ Kept lo hi w w' := by
  obtain ⟨u, rfl, hs⟩ := how
  have B0 := Lib.hid (below1 w (.cells #[.int .i64 r.1, u] 29))
  have HS := Lib.hid (hs.below B0.out)
  clear hs
  go_enter Tryd.func12, Tryd.ntmps12
  go_wp2_with fail
  refine (mark_halfs r.2 lo hi k n u _ hk hn hb HS.out).mono ?_
  rintro e w1 ⟨rfl, ho, hkk⟩
  go_wp2_with fail
  go_ret
  exact ⟨rfl, ⟨u, rfl, ho⟩, (Kept.of_below B0.out).trans hkk⟩
set_option maxRecDepth 100000 in
set_option maxHeartbeats 400000 in
theorem held_region (v : Value) (r : Rgn) (k m : Nat) (w : World) (hk : 1 ≤ k) (hn : k + totH r.2 = m) (hb : m ≤ 4611686018427387904) (hv : Rg w v (rgmarks k r)) :
    Calls Tryd.prog 13 #[v, .int .i64 k] w (Quiet w (.int .i64 m)) := by
  obtain ⟨u, rfl, hs⟩ := hv
  have B0 := Lib.hid (below1 w (.cells #[.int .i64 (rgmarks k r).1, u] 29))
  have HS := Lib.hid (show Hs _ u (hmarks k r.2) from hs.below B0.out)
  clear hs
  go_enter Tryd.func13, Tryd.ntmps13
  go_wp2_with fail
  refine (held_halfs u r.2 k m _ hk hn hb HS.out).mono ?_
  rintro e w1 ⟨rfl, hb1⟩
  have HB1 := Lib.hid (B0.out.trans (hb1.mono B0.out.size))
  clear hb1
  go_wp2_with fail
  go_ret
  exact ⟨rfl, HB1.out⟩
end Go.Proofs.YtflkalgofkpdbaaDoor
/- What closes every law's row: the call answered true and nothing that was there has turned. -/
namespace Go.Proofs.YtflkalgofkpdbaaDoor
open Go Go.ChangeShapes Go.WideShapes Go.ChangeAt Go.RowKit

variable {H : Type} {enc : TypeId × Value → H} {P : Program}

theorem trodAll_below (hl : laidOutB P = true) {W W' : World} (hb : Below W.heap.size W W') :
    ∀ {ts : List TypeId} {vs : List Value} {ds : List (DataW H)} {ps : List MemPlace}, (ts.all fun t => P.readableRec t && decide (t < P.types.size)) = true →
      DataW.TrodAll enc P W 0 (fun _ => true) true ts vs ds ps → (∀ x ∈ ps, x.block < W.heap.size) →
      DataW.TrodAll enc P W' 0 (fun b => decide (b < W.heap.size)) true ts vs ds ps
  | [], _, _, _, _, h, _ => by
    obtain ⟨rfl, rfl, rfl⟩ := trodAll_nil h
    exact trodAll_mk0
  | t :: ts, vs, ds, ps, hr, h, hlt => by
    obtain ⟨v0, vs0, d0, ds0, p0, q0, rfl, rfl, rfl, h0, r0⟩ := trodAll_cons h
    simp only [List.all_cons, Bool.and_eq_true, decide_eq_true_eq] at hr
    exact trodAll_cons_mk (Below.trod hl hr.1.1 hr.1.2 h0 hb (fun x hx => hlt x (by simp [hx])))
      (trodAll_below hl hb (by simpa using hr.2) r0 (fun x hx => hlt x (by simp [hx])))

/-- THE CLOSER. -/
theorem law_post {f : Func} {s : ChangeSpec} {W W' : World} {args : Array Value} {ds gs : List (DataW H)} {before : List MemPlace} {tb : TypeId}
    (hl : laidOutB P = true) (hr : (f.params.toList.all fun t => P.readableRec t && decide (t < P.types.size)) = true)
    (hres : f.resultTypes = #[tb]) (htb : P.underlying tb = some .bool) (hv : s.vars = [])
    (hW : DataW.Whole enc P f.params.toList s.vars false W args.toList ds gs before)
    (hs : ∀ ds' : List (DataW H), ds'.length = f.params.size → s.fn H ds' = { results := [.lit (.bool true)], args := ds' })
    (hb : Below W.heap.size W W') : s.post enc P f false true false false W args (.bool true) W' := by
  have hW' := hW
  obtain ⟨p, q, hA, hV, rfl, hfz, hnd⟩ := hW
  rw [hv] at hV
  obtain ⟨rfl, rfl⟩ := trodVars_none hV
  have hlen : ds.length = f.params.size := by
    have : ∀ {ts : List TypeId} {vs : List Value} {ds : List (DataW H)} {ps : List MemPlace}, DataW.TrodAll enc P W 0 (fun _ => true) true ts vs ds ps → ds.length = ts.length := by
      intro ts
      induction ts with
      | nil => intro vs ds ps h; obtain ⟨rfl, rfl, rfl⟩ := trodAll_nil h; rfl
      | cons t ts ih =>
        intro vs ds ps h
        obtain ⟨v0, vs0, d0, ds0, p0, q0, rfl, rfl, rfl, h0, r0⟩ := trodAll_cons h
        simp [ih r0]
    simpa using this hA
  have e1 := hs (ds ++ []) (by simpa using hlen)
  have hlt : ∀ x ∈ p, x.block < W.heap.size := fun x hx => hW'.lt x (by simp [hx])
  refine ⟨ds, [], p ++ [], [], p, [], hW', ?_, ?_, ?_, hb.frame _, fun h => by cases h⟩
  · rw [e1, hres]; exact trodAll_mk1 (shut_bool htb _)
  · rw [e1, List.append_nil]; exact trodAll_below hl hb hr hA hlt
  · rw [e1, hv]; rfl
end Go.Proofs.YtflkalgofkpdbaaDoor
