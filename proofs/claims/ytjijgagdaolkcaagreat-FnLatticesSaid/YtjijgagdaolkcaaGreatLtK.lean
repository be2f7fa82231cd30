/- A set of triples that is kept in a map of the call's own: its keys, each with true. -/
import Derived.Test.YtjijgagdaolkcaaGreatMav
import Derived.Test.YtjijgagdaolkcaaGreatMab
import Derived.Maps.OwnOps
import Derived.Maps.Views
import Derived.Maps.Range
import Derived.WideKeyPair
namespace Go.Proofs.YtjijgagdaolkcaaGreat
open Go Go.RowKit Go.Maps Go.WideMaps

def encV (t : T3) : Value := .agg #[.int .i64 t.1, .int .i64 t.2.1, .int .i64 t.2.2]
theorem encV_inj {s t : T3} (h : encV s = encV t) : s = t := by
  obtain ⟨a, b, c⟩ := s
  obtain ⟨x, y, z⟩ := t
  simp [encV] at h
  obtain ⟨rfl, rfl, rfl⟩ := h
  rfl
/-- Each number is one that an int holds. -/
def W3 (t : T3) : Prop := (Lit.int .i64 t.1).wf = true ∧ (Lit.int .i64 t.2.1).wf = true ∧ (Lit.int .i64 t.2.2).wf = true
def klT (t : T3) : Lit := .string (keyBytes [.int .i64 t.1, .int .i64 t.2.1, .int .i64 t.2.2])
theorem arrT : ArrKey Tryz.prog 43 3 3 := ⟨Tryz.underlying43, by kernel_rfl, by kernel_rfl, by kernel_rfl⟩
theorem lawT : Keyed Tryz.prog 43 := Keyed.of_law arrT.law
theorem sizeT : ∃ m, Tryz.prog.types.size = m + 1 := ⟨Tryz.prog.types.size - 1, by kernel_rfl⟩
theorem list3v {l : List Value} (h : l.length = 3) : ∃ a b c, l = [a, b, c] := by
  match l, h with
  | [a, b, c], _ => exact ⟨a, b, c, rfl⟩
theorem keyT {t : T3} (h : W3 t) : keyOf Tryz.prog 43 (encV t) = some (klT t) := by
  have hkt := arrT.keyType sizeT
  obtain ⟨m, hm⟩ := sizeT
  obtain ⟨wa, wb, wc⟩ := h
  have A := arrT
  have he := Tryz.underlying3
  unfold keyOf encV klT
  simp only [A.hu]
  rw [if_pos (by simp [hkt, Value.formed, A.hu, A.size]), hm]
  unfold Program.keyLits
  simp only [A.hu, Value.cells]
  rw [if_pos (by rw [A.size]; rfl), show List.range 3 = [0, 1, 2] from rfl, List.mapM_cons, List.mapM_cons, List.mapM_cons, List.mapM_nil]
  simp [A.one, Program.keyLits, he, wa, wb, wc]
theorem lit_inv {m : Nat} {c : Value} {ls : List Lit} (h : Tryz.prog.keyLits (m + 1) 3 [c] = some ls) : ∃ x : Int, c = .int .i64 x ∧ (Lit.int .i64 x).wf = true ∧ ls = [.int .i64 x] := by
  simp only [Program.keyLits, Tryz.underlying3] at h
  cases c <;> simp at h
  obtain ⟨⟨rfl, hw⟩, rfl⟩ := h
  exact ⟨_, rfl, hw, rfl⟩
theorem keyT_inv {v : Value} {kl : Lit} (h : keyOf Tryz.prog 43 v = some kl) : ∃ t, W3 t ∧ v = encV t ∧ kl = klT t := by
  obtain ⟨m, hm⟩ := sizeT
  have A := arrT
  have he := Tryz.underlying3
  unfold keyOf at h
  simp only [A.hu] at h
  split at h
  case isFalse => cases h
  rename_i hf
  rw [hm] at h
  simp only [Bool.and_eq_true] at hf
  have hf2 := hf.2
  cases v with
  | agg cs =>
    simp only [Value.formed, A.hu, A.size, beq_iff_eq] at hf2
    obtain ⟨l⟩ := cs
    obtain ⟨c0, c1, c2, rfl⟩ := list3v (show l.length = 3 from hf2)
    unfold Program.keyLits at h
    simp only [A.hu, Value.cells] at h
    rw [if_pos (by rw [A.size]; rfl), show List.range 3 = [0, 1, 2] from rfl, List.mapM_cons, List.mapM_cons, List.mapM_cons, List.mapM_nil] at h
    simp only [A.one, Nat.zero_mul, Nat.one_mul, List.drop_zero, List.drop_succ_cons, List.take_succ_cons, List.take_zero] at h
    cases h0 : Tryz.prog.keyLits (m + 1) 3 [c0] with
    | none => rw [h0] at h; cases h
    | some l0 =>
    cases h1 : Tryz.prog.keyLits (m + 1) 3 [c1] with
    | none => rw [h0, h1] at h; cases h
    | some l1 =>
    cases h2 : Tryz.prog.keyLits (m + 1) 3 [c2] with
    | none => rw [h0, h1, h2] at h; cases h
    | some l2 =>
    rw [h0, h1, h2] at h
    obtain ⟨x, rfl, wx, rfl⟩ := lit_inv h0
    obtain ⟨y, rfl, wy, rfl⟩ := lit_inv h1
    obtain ⟨z, rfl, wz, rfl⟩ := lit_inv h2
    cases h
    exact ⟨(x, y, z), ⟨wx, wy, wz⟩, rfl, rfl⟩
  | _ => simp [Value.formed, A.hu] at hf2
theorem klT_inj {s t : T3} (hs : W3 s) (ht : W3 t) (h : klT s = klT t) : s = t := encV_inj (lawT.inj (keyT hs) (h ▸ keyT ht))
theorem klT_key {t : T3} (ht : W3 t) : WideAt.IsKeyLit (klT t) := lawT.key (keyT ht)
theorem bool_inv' {P : Program} {e : TypeId} (he : P.underlying e = some .bool) {v : Value} {z : DataW Unit × List MemPlace} (h : plainElem (H := Unit) P e v = some z) : ∃ x, v = .bool x ∧ z = (.lit (.bool x), []) := by
  unfold plainElem at h
  rw [he] at h
  cases v <;> simp at h
  exact ⟨_, rfl, h.symm⟩
theorem bool_inv {v : Value} {z : DataW Unit × List MemPlace} (h : plainElem (H := Unit) Tryz.prog 4 v = some z) : ∃ x, v = .bool x ∧ z = (.lit (.bool x), []) := bool_inv' Tryz.underlying4 h
/-- Block b is a map of at most n entries; its keys are the triples of S, each with true. -/
def SetM (w : World) (b n : Nat) (S : List T3) : Prop :=
  ∃ D : DataW Unit, w.ownsMap Tryz.prog 43 (plainElem Tryz.prog 4) b n D ∧ (∀ t, W3 t → has D (klT t) = decide (t ∈ S)) ∧ (∀ kl, has D kl = true → ∀ z, D.atKey kl z = .lit (.bool true)) ∧ IsMap D
theorem SetM.made (w : World) : SetM (w.alloc (.map #[] 0)) w.heap.size 0 [] :=
  ⟨.map [], World.ownsMap_made w _ _ _, fun t _ => by simp [has], fun kl h => by simp [has] at h, ⟨[], rfl⟩⟩
theorem SetM.mono {w : World} {b n n' : Nat} {S : List T3} (h : SetM w b n S) (hn : n ≤ n') : SetM w b n' S := by
  obtain ⟨D, h1, h2⟩ := h
  exact ⟨D, h1.mono hn, h2⟩
theorem SetM.lt {w : World} {b n : Nat} {S : List T3} (h : SetM w b n S) : b < w.heap.size := by
  obtain ⟨D, h1, _⟩ := h
  exact h1.lt
theorem SetM.kept {w w' : World} {b n : Nat} {S : List T3} {row : Option Nat} (h : SetM w b n S) (hg : w.grownBy w' row) (hne : some b ≠ row) : SetM w' b n S := by
  obtain ⟨D, h1, h2⟩ := h
  exact ⟨D, h1.kept hg hne, h2⟩
theorem SetM.below {w w' : World} {b n : Nat} {S : List T3} (h : SetM w b n S) (hb : Below w.heap.size w w') : SetM w' b n S := by
  have hl := h.lt
  obtain ⟨D, ⟨es, clock, h1, h3⟩, h2⟩ := h
  exact ⟨D, ⟨es, clock, (hb.block b hl).trans h1, h3⟩, h2⟩
theorem SetM.look {w : World} {b n : Nat} {S : List T3} {T : TypeId} (h : SetM w b n S) (hT : Tryz.prog.underlying T = some (.map 43 4)) (hz : (zeroValue 4).run Tryz.prog w = .ok (.bool false) w) {t : T3} (ht : W3 t) :
    (Instr.lookup T (.map (some b)) (encV t) false).run Tryz.prog w = .ok (.bool (decide (t ∈ S))) w := by
  obtain ⟨D, h1, h2, h3, _⟩ := h
  obtain ⟨v, ps, hrun, hv⟩ := h1.lookup lawT hT hz (plainElem_bool Tryz.underlying4 false) (keyT ht)
  obtain ⟨x, rfl, hx⟩ := bool_inv hv
  simp only [Prod.mk.injEq] at hx
  rw [hrun]
  have e : x = decide (t ∈ S) := by
    cases hh : has D (klT t) with
    | true =>
      rw [h3 _ hh] at hx
      rw [← h2 t ht, hh]
      have := hx.1
      simp at this
      exact this
    | false =>
      rw [atKey_of_not_has hh] at hx
      rw [← h2 t ht, hh]
      have := hx.1
      simp at this
      exact this
  rw [e]
theorem SetM.store {w : World} {b n : Nat} {S : List T3} {T : TypeId} (h : SetM w b n S) (hT : Tryz.prog.underlying T = some (.map 43 4)) (hn : n < maxLen) {t : T3} (ht : W3 t) :
    ∃ w', (Instr.mapUpdate T (.map (some b)) (encV t) (.bool true)).run Tryz.prog w = .ok () w' ∧ SetM w' b (n + 1) (t :: S) ∧ w.grownBy w' (some b) := by
  obtain ⟨D, h1, h2, h3, h4⟩ := h
  obtain ⟨w', hrun, hown, hg⟩ := h1.update lawT hT hn (keyT ht) (plainElem_bool Tryz.underlying4 true)
  refine ⟨w', hrun, ⟨_, hown, fun s hs => ?_, fun kl hk z => ?_, ?_⟩, hg⟩
  · by_cases e : s = t
    · subst e; rw [has_put_same h4 (klT_key ht)]; simp
    · rw [has_put_other (fun e2 => e (klT_inj hs ht e2)), h2 s hs]; simp [e]
  · by_cases e : kl = klT t
    · subst e; rw [atKey_put_same h4 (klT_key ht)]
    · rw [atKey_put_other e]
      rw [has_put_other e] at hk
      exact h3 kl hk z
  · obtain ⟨es, clock, _, _, _, hD⟩ := hown
    exact ⟨_, hD⟩
section
variable (w : World) {ops : Array Oper} {rest : List Oper} {o : Oper} {a : Act} {Q : Exit → Act → World → Prop}
/-- 'known[x]' in the walk. -/
theorem list_look_set (hg : o.guard = none) (m x : Operand) (T : TypeId) (hop : o.op = Op.lookup T m x false) (hT : Tryz.prog.underlying T = some (.map 43 4)) (hz : (zeroValue 4).run Tryz.prog w = .ok (.bool false) w)
    (b n : Nat) (S : List T3) (hm : a.eval m = .map (some b)) (hown : SetM w b n S) (t : T3) (hx : a.eval x = encV t) (ht : W3 t)
    (hK : wpList Tryz.prog ops Q rest (a.put o.dst (.bool (decide (t ∈ S)))) w) : wpList Tryz.prog ops Q (o :: rest) a w := by
  refine wpList_plain hg fun K' hK' => ?_
  have hrun := hown.look hT hz ht
  unfold Oper.wp
  simp [execOp, hop, hm, hx, hrun, Result.andThen]
  exact hK' _ _ (by simpa using hK)
/-- 'known[x] = true' in the walk. -/
theorem list_store_set (hg : o.guard = none) (m x v : Operand) (T : TypeId) (hop : o.op = Op.mapUpdate T m x v) (hT : Tryz.prog.underlying T = some (.map 43 4))
    (b n : Nat) (S : List T3) (hm : a.eval m = .map (some b)) (hown : SetM w b n S) (hn : n < maxLen) (t : T3) (hx : a.eval x = encV t) (hv : a.eval v = .bool true) (ht : W3 t)
    (hK : ∀ w', SetM w' b (n + 1) (t :: S) → w.grownBy w' (some b) → wpList Tryz.prog ops Q rest (a.put o.dst undef) w') : wpList Tryz.prog ops Q (o :: rest) a w := by
  refine wpList_plain hg fun K' hK' => ?_
  obtain ⟨w', hrun, r1, r2⟩ := hown.store hT hn ht
  unfold Oper.wp
  simp [execOp, hop, hm, hx, hv, hrun, Result.andThen]
  exact hK' _ _ (hK w' r1 r2)
end
end Go.Proofs.YtjijgagdaolkcaaGreat
