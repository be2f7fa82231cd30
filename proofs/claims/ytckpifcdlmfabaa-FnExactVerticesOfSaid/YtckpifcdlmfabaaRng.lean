/- A range over a function where the body and the function each have blocks of their own: the body's are named, all others are kept. -/
import Derived.RangeFuncNested
import Derived.RangeFuncBound
import Derived.RangeFuncRecord
import Derived.RangeFuncLeaves
import Derived.Test.YtckpifcdlmfabaaMab
namespace Go.Proofs.Ytckpifcdlmfabaa
open Go Go.RowKit

/-- A set of blocks. -/
abbrev Bs := Nat → Prop
/-- w' comes of w by new blocks and by changes in the blocks of T alone. -/
structure Fol (T : Bs) (w w' : World) : Prop where
  below : Below 0 w w'
  block : ∀ k, k < w.heap.size → ¬ T k → w'.heap[k]? = w.heap[k]?
/-- What is among the new blocks' names was there or is new. -/
def Grew (T T' : Bs) (w : World) : Prop := ∀ k, T' k → T k ∨ w.heap.size ≤ k
theorem Fol.refl (T : Bs) (w : World) : Fol T w w := ⟨Below.refl _ _, fun _ _ _ => rfl⟩
theorem Fol.size {T : Bs} {w w' : World} (h : Fol T w w') : w.heap.size ≤ w'.heap.size := h.below.size
theorem Fol.trans {T T' : Bs} {a b c : World} (h : Fol T a b) (g : Grew T T' a) (k : Fol T' b c) : Fol T a c :=
  ⟨h.below.trans k.below, fun i hi ht => (k.block i (Nat.lt_of_lt_of_le hi h.size) (fun e => (g i e).elim ht (fun e2 => by omega))).trans (h.block i hi ht)⟩
theorem Fol.of_below {T : Bs} {w w' : World} (h : Below w.heap.size w w') : Fol T w w' := ⟨h.mono (Nat.zero_le _), fun k hk _ => h.block k hk⟩
theorem Fol.mono {T T' : Bs} {w w' : World} (h : Fol T w w') (k : ∀ i, i < w.heap.size → T i → T' i) : Fol T' w w' := ⟨h.below, fun i hi ht => h.block i hi (fun e => ht (k i hi e))⟩
theorem Fol.to_below {T : Bs} {w w' : World} (h : Fol T w w') {B : Nat} (hB : ∀ k, T k → B ≤ k) (hs : B ≤ w.heap.size) : Below B w w' :=
  ⟨h.below.os, h.below.tape, h.below.output, h.below.size, fun k hk => h.block k (by omega) (fun e => by have := hB k e; omega)⟩
theorem Grew.refl (T : Bs) (w : World) : Grew T T w := fun _ h => .inl h
theorem Grew.trans {T T' T'' : Bs} {a b : World} (h : Grew T T' a) (k : Grew T' T'' b) (hs : a.heap.size ≤ b.heap.size) : Grew T T'' a :=
  fun i hi => (k i hi).elim (fun e => h i e) (fun e => .inr (by omega))
theorem Fol.bk {T : Bs} {w w' : World} (h : Fol T w w') {b : Nat} {cs : Array Value} {R : TypeId} (hb : Bk w b cs R) (ht : ¬ T b) : Bk w' b cs R := (h.block b hb.lt ht).trans hb
theorem Fol.setCell {T : Bs} {a w : World} (h : Fol T a w) {p : Addr} (hp : T p.block ∨ a.heap.size ≤ p.block) (u : Value) : Fol T a (w.setCell p u) :=
  ⟨h.below.setCell (Nat.zero_le _) u, fun k hk ht => (Below.heap_setCell _ _ _ _ (fun e => by subst e; exact hp.elim ht (fun e => by omega))).trans (h.block k hk ht)⟩
theorem Fol.alloc {T : Bs} {a w : World} (h : Fol T a w) (o : Obj) : Fol T a (w.alloc o) :=
  ⟨h.below.alloc (Nat.zero_le _) o, fun k hk ht => (Below.heap_alloc _ _ _ (Nat.lt_of_lt_of_le hk h.size)).trans (h.block k hk ht)⟩
theorem Fol.drew {T : Bs} {a w : World} (h : Fol T a w) : Fol T a w.drew := ⟨h.below.drew, h.block⟩
theorem Fol.then_below {T : Bs} {a b c : World} (h : Fol T a b) (k : Below b.heap.size b c) : Fol T a c :=
  ⟨h.below.trans (k.mono (Nat.zero_le _)), fun i hi ht => (k.block i (Nat.lt_of_lt_of_le hi h.size)).trans (h.block i hi ht)⟩
theorem Fol.grown {T : Bs} {a w w' : World} {r : Option Nat} (h : Fol T a w) (hg : w.grownBy w' r) (hr : ∀ b, r = some b → T b ∨ a.heap.size ≤ b) : Fol T a w' :=
  ⟨h.below.grown hg (Nat.zero_le _) (fun _ _ => Nat.zero_le _), fun k hk ht => (hg.block k (Nat.lt_of_lt_of_le hk h.size) (fun e => (hr k e.symm).elim ht (fun e2 => by omega))).trans (h.block k hk ht)⟩
theorem putObj_fol (w : World) (r : Nat) (o : Obj) {T : Bs} (h : T r ∨ w.heap.size ≤ r) : Fol T w (w.putObj r o) :=
  ⟨⟨rfl, rfl, rfl, by simp, fun k hk => by omega⟩, fun k hk ht => World.putObj_heap_other (fun e => by subst e; exact h.elim ht (fun e => by omega))⟩

/-- What is said of the blocks of T alone. -/
structure Sep {α : Type} (J : α → Bs → World → Prop) : Prop where
  lt : ∀ s T w, J s T w → ∀ k, T k → k < w.heap.size
  keep : ∀ s T w w', J s T w → Below 0 w w' → (∀ k, T k → w'.heap[k]? = w.heap[k]?) → J s T w'
theorem Sep.fol {α : Type} {J : α → Bs → World → Prop} (h : Sep J) {s : α} {T U : Bs} {w w' : World} (hj : J s T w) (hf : Fol U w w') (hd : ∀ k, T k → ¬ U k) : J s T w' :=
  h.keep s T w w' hj hf.below fun k hk => hf.block k (h.lt s T w hj k hk) (hd k hk)
theorem Sep.later {α : Type} {J : α → Bs → World → Prop} (h : Sep J) {s : α} {T : Bs} {w w' : World} (hj : J s T w) (hb : Below w.heap.size w w') : J s T w' :=
  h.fol hj (Fol.of_below (T := fun _ => False) hb) (fun _ _ e => e)
theorem Sep.putObj {α : Type} {J : α → Bs → World → Prop} (h : Sep J) {s : α} {T : Bs} {w : World} {r : Nat} (o : Obj) (hj : J s T w) (hr : ¬ T r) : J s T (w.putObj r o) :=
  h.fol hj (putObj_fol w r o (T := fun k => k = r) (.inl rfl)) (fun k hk e => hr (by subst e; exact hk))
theorem Sep.no {α : Type} : Sep (fun (_ : α) (_ : Bs) (_ : World) => False) := ⟨fun _ _ _ h => h.elim, fun _ _ _ _ h => h.elim⟩

/-- What one call of yield does. -/
def RoundsT {α : Type} (P : Program) (l : Nat) (encs : α → Array Value) (xs : List α) (J Jx : List α → Bs → World → Prop) (T0 : Bs) (W0 : World) : Prop :=
  ∀ pre x T W, J pre T W → Grew T0 T W0 → Fol T0 W0 W → pre ++ [x] <+: xs → YieldAt Fence.wide 9 P l (encs x) W fun e W' => ∃ T', Grew T T' W ∧ Fol T W W' ∧
    ((e = .returned (.bool true) ∧ J (pre ++ [x]) T' W') ∨ (e = .returned (.bool false) ∧ Jx (pre ++ [x]) T' W'))
/-- **The function g with the captured values lb yields xs one by one, as long as it is told to go on**; U: the blocks that it reads, H: what lies there. -/
def SeqT {α : Type} (P : Program) (g : Nat) (lb : Array Value) (encs : α → Array Value) (xs : List α) (U : Bs) (H : World → Prop) : Prop :=
  ∀ l J Jx T W, Sep J → Sep Jx → H W → (∀ k, T k → ¬ U k) → RoundsT P l encs xs J Jx T W → J [] T W →
    CallsIn Fence.wide 9 P g (#[.func (.yield l) #[] #[]] ++ lb) W fun e W' => (∃ v, e = .returned v) ∧ ∃ T', Grew T T' W ∧ Fol T W W' ∧ (J xs T' W' ∨ ∃ pre, pre <+: xs ∧ Jx pre T' W')

theorem RoundIn.anyN {P : Program} {l : Nat} {f : FuncId} {tmps : Array Value} {assign body : Code} {w : World} {R : Ending → World → Prop} {n m : Nat} (h : RoundIn Fence.wide n P l f tmps assign body w R) : RoundIn Fence.wide m P l f tmps assign body w R :=
  ⟨h.1, fun c cs _ => h.2 c cs (room_wide _)⟩
theorem RoundIn.into {P : Program} {l : Nat} {f : FuncId} {tmps : Array Value} {assign body : Code} {w : World} {R : Ending → World → Prop} {n m : Nat} (l2 : Nat) (h : RoundIn Fence.wide n P l f tmps assign body w R) : RoundIn (Fence.wide.inRound l2) m P l f tmps assign body w R :=
  ⟨h.1, fun c cs _ => h.2 c cs (room_wide _)⟩
theorem YieldAt.anyN {P : Program} {l : Nat} {args : Array Value} {w : World} {R : Ending → World → Prop} {n m : Nat} (h : YieldAt Fence.wide n P l args w R) : YieldAt Fence.wide m P l args w R := by
  obtain ⟨fn, tmps, assign, body, hy, hr⟩ := h
  exact ⟨fn, tmps, assign, body, hy, RoundIn.anyN hr⟩
theorem CallsIn.anyN {P : Program} {f : FuncId} {args : Array Value} {w : World} {R : Ending → World → Prop} {n m : Nat} (h : CallsIn Fence.wide n P f args w R) : CallsIn Fence.wide m P f args w R := callsIn_wide.2 (callsIn_wide.1 h)

/-- How the body of a round may be left. -/
def bodyT {α : Type} (I : List α → Bs → World → Prop) (Ix : Code → List α → Bs → World → Prop) (xs : List α) (T : Bs) (W : World) : Exit → Act → World → Prop
  | .normal, _, W' => ∃ T', Grew T T' W ∧ Fol T W W' ∧ I xs T' W'
  | .ret, _, W' => ∃ T', Grew T T' W ∧ Fol T W W' ∧ Ix .ret xs T' W'
  | .exit id, _, W' => ∃ T', Grew T T' W ∧ Fol T W W' ∧ Ix (.exit id) xs T' W'
  | .goto t, _, W' => ∃ T', Grew T T' W ∧ Fol T W W' ∧ Ix (.goto t) xs T' W'
  | .panic _, _, _ => False
  | .outgrown, _, _ => False

/-- The caller's record of the loop and the block for deferred calls beside its own blocks. -/
def withRec (D : Nat) (T : Bs) : Bs := fun k => T k ∨ k = D ∨ k = D + 1
def recI {α : Type} (D : Nat) (r : Loop) (I : List α → Bs → World → Prop) : List α → Bs → World → Prop :=
  fun pre T1 W => ∃ T, T1 = withRec D T ∧ I pre T W ∧ ¬ T D ∧ ¬ T (D + 1) ∧ W.heap[D + 1]? = some (.loop r) ∧ W.heap[D]? = some (.deferred (some []))
theorem recI_sep {α : Type} {D : Nat} {r : Loop} {I : List α → Bs → World → Prop} (h : Sep I) : Sep (recI D r I) := by
  refine ⟨fun s T w hj k hk => ?_, fun s T w w' hj hb hk => ?_⟩
  · obtain ⟨T0, rfl, h1, _, _, h4, h5⟩ := hj
    rcases hk with hk | rfl | rfl
    · exact h.lt _ _ _ h1 k hk
    · exact lt_of_heap h5
    · exact lt_of_heap h4
  · obtain ⟨T0, rfl, h1, h2, h3, h4, h5⟩ := hj
    exact ⟨T0, rfl, h.keep _ _ _ _ h1 hb (fun k e => hk k (.inl e)), h2, h3, (hk _ (.inr (.inr rfl))).trans h4, (hk _ (.inr (.inl rfl))).trans h5⟩

/-- **The statement 'for .. := range g { .. }' over a function that yields xs.** M: what holds between the assignment to the loop's variables and the body. -/
theorem wp_rangeT {α : Type} {P : Program} {g : Operand} {ps : Array Tmp} {assign body : Code} {Q : Exit → Act → World → Prop} {a : Act} {w : World} {gf : Nat} {lb : Array Value}
    (hg : a.eval g = .func (.func gf) #[] lb) (eg : ∀ args w, (callFunc gf args).run P w = .ok (.enter gf args) w)
    {encs : α → Array Value} {xs : List α} {U : Bs} {H : World → Prop} (hseq : SeqT P gf lb encs xs U H) (hH : ∀ w', Below w.heap.size w w' → H w') (hps : ∀ x, (encs x).size = ps.size)
    (I : List α → Bs → World → Prop) (Ix : Code → List α → Bs → World → Prop) (M : α → Act → List α → Bs → World → Prop) (hI : Sep I) (hIx : ∀ c, Sep (Ix c)) (hM : ∀ x a', Sep (M x a')) (T0 : Bs) (h0 : I [] T0 w) (hU : ∀ k, U k → k < w.heap.size ∧ ¬ T0 k)
    (hassign : ∀ (l : Nat) (pre : List α) (x : α) (T : Bs) (W : World), w.heap.size < W.heap.size → I pre T W → Grew T0 T w → Fol T0 w W → pre ++ [x] <+: xs →
      assign.wpIn (Fence.wide.inRound l) 9 P (Exit.then (fun a' W' => ∃ T', Grew T T' W ∧ Fol T W W' ∧ M x a' pre T' W') (fun _ _ _ => False)) { tmps := (ps.zip (encs x)).foldl (fun t (p, v) => t.setIfInBounds p v) a.tmps, defers := [] } W)
    (hbody : ∀ (l : Nat) (pre : List α) (x : α) (a' : Act) (T : Bs) (W : World), w.heap.size < W.heap.size → M x a' pre T W → Grew T0 T w → Fol T0 w W → pre ++ [x] <+: xs → body.wpIn (Fence.wide.inRound l) 9 P (bodyT I Ix (pre ++ [x]) T W) a' W)
    (hdone : ∀ (T : Bs) (W : World), Grew T0 T w → Fol T0 w W → w.heap.size < W.heap.size → I xs T W → ¬ T w.heap.size → W.heap[w.heap.size]? = some (.deferred (some [])) →
      Q .normal { a with defers := { target := .collected w.heap.size, args := #[] } :: a.defers } W)
    (hstop : ∀ (c : Code) (pre : List α) (T : Bs) (W : World), Grew T0 T w → Fol T0 w W → w.heap.size < W.heap.size → pre <+: xs → Ix c pre T W → ¬ T w.heap.size → W.heap[w.heap.size]? = some (.deferred (some [])) →
      c.wpIn Fence.wide 9 P Q { a with defers := { target := .collected w.heap.size, args := #[] } :: a.defers } W) :
    (Code.rangeFunc g ps assign body).wpIn Fence.wide 9 P Q a w := by
  refine wpIn_rangeFunc fun fn hfn => ?_
  generalize hD : w.heap.size = D at *
  let rec0 : LoopState → Option Code → Loop := fun st pe => { state := st, pending := pe, fn, tmps := a.tmps, params := ps, assign, body, defers := D }
  have hrec : ∀ st pe, rec0 st pe = { state := st, pending := pe, fn, tmps := a.tmps, params := ps, assign, body, defers := D } := fun _ _ => rfl
  clear_value rec0
  have hb1 : Below w.heap.size w ((w.alloc (.deferred (some []))).alloc (.loop (rec0 .ready none))) := below2 w _ _
  have hK1 : ((w.alloc (.deferred (some []))).alloc (.loop (rec0 .ready none))).heap[D]? = some (.deferred (some [])) := by
    rw [Below.heap_alloc _ _ _ (by simp; omega), ← hD]; exact World.alloc_heap_new w _
  have hL1 : ((w.alloc (.deferred (some []))).alloc (.loop (rec0 .ready none))).heap[D + 1]? = some (.loop (rec0 .ready none)) := by
    have := World.alloc_heap_new (w.alloc (.deferred (some []))) (.loop (rec0 .ready none)); rwa [World.size_alloc, hD] at this
  have hs1 : ((w.alloc (.deferred (some []))).alloc (.loop (rec0 .ready none))).heap.size = D + 2 := by simp [hD]
  have hE := run_enterLoop_outer (P := P) (w := w) fn a.tmps ps assign body
  rw [hD, ← hrec] at hE
  generalize ((w.alloc (.deferred (some []))).alloc (.loop (rec0 .ready none))) = W1 at hb1 hK1 hL1 hs1 hE
  have hT0 : ∀ k, T0 k → k < D := fun k hk => by have := hI.lt _ _ _ h0 k hk; omega
  have grewT : ∀ T : Bs, Grew (withRec D T0) (withRec D T) W1 → Grew T0 T w := fun T hg2 k e => by
    rcases hg2 k (.inl e) with (e | e | e) | e
    · exact .inl e
    · exact .inr (by omega)
    · exact .inr (by omega)
    · exact .inr (by omega)
  have folT : ∀ W2, Fol (withRec D T0) W1 W2 → Fol T0 w W2 := fun W2 hf2 =>
    ⟨(hb1.mono (Nat.zero_le _)).trans hf2.below, fun k hk1 ht => (hf2.block k (by omega) (fun e => by rcases e with e | e | e <;> first | exact ht e | omega)).trans (hb1.block k hk1)⟩
  refine ⟨D + 1, [{ target := .collected D, args := #[] }], W1, { target := .fn (.func gf) lb, args := #[.func (.yield (D + 1)) #[] #[]] }, W1, gf, #[.func (.yield (D + 1)) #[] #[]] ++ lb, W1, hE, ?_, fun _ _ => trivial, ?_, fun h => by simp [Fence.wide] at h, ?_⟩
  · simp only [resolve, hg]
    simp [go_sem]
  · simp [invoke, go_sem, eg]
  refine CallsIn.anyN (n := 9) ((hseq (D + 1) (recI D (rec0 .ready none) I) (fun pre T W => ∃ c, recI D (rec0 .done (some c)) (Ix c) pre T W) (withRec D T0) W1 (recI_sep hI) ?_ (hH W1 (hD ▸ hb1)) ?_ ?_ ?_).mono ?_)
  · exact ⟨fun s T w hj => by obtain ⟨c, hj⟩ := hj; exact (recI_sep (hIx c)).lt s T w hj, fun s T w w' hj hb hk => by obtain ⟨c, hj⟩ := hj; exact ⟨c, (recI_sep (hIx c)).keep s T w w' hj hb hk⟩⟩
  · intro k hk hu
    have := hU k hu
    rcases hk with hk | rfl | rfl
    · exact this.2 hk
    · omega
    · omega
  · -- one round
    rintro pre x T1 W ⟨T, rfl, hi, hn1, hn2, hl, hk⟩ hgg hff hx
    replace hgg := grewT T hgg
    replace hff := folT W hff
    have hlt : D + 1 < W.heap.size := lt_of_heap hl
    have hy := run_yield (P := P) (args := encs x) hl (by rw [hrec]; exact hps x)
    rw [hrec] at hy
    refine ⟨fn, _, assign, body, hy, roundIn_of_wpIn hfn (wpIn_mono (hassign (D + 1) pre x T W (by omega) hi hgg hff hx) ?_)⟩
    rintro e a1 Wa hp
    cases e with
    | normal =>
      obtain ⟨T', hg', hf', hm⟩ := hp
      have hsa := hf'.size
      have hla : Wa.heap[D + 1]? = some (.loop (rec0 .ready none)) := (hf'.block _ hlt hn2).trans hl
      have hka : Wa.heap[D]? = some (.deferred (some [])) := (hf'.block _ (by omega) hn1).trans hk
      have hna1 : ¬ T' D := fun e => (hg' _ e).elim hn1 (fun e => by omega)
      have hna2 : ¬ T' (D + 1) := fun e => (hg' _ e).elim hn2 (fun e => by omega)
      refine ⟨_, run_beginRound hla (by rw [hrec]), ?_⟩
      have hl2 : (Wa.putObj (D + 1) (.loop { rec0 .ready none with state := .busy })).heap[D + 1]? = some (.loop { rec0 .ready none with state := .busy }) := World.putObj_heap_same (by omega)
      have hk2 : (Wa.putObj (D + 1) (.loop { rec0 .ready none with state := .busy })).heap[D]? = some (.deferred (some [])) := (World.putObj_heap_other (by omega)).trans hka
      have hsb : (Wa.putObj (D + 1) (.loop { rec0 .ready none with state := .busy })).heap.size = Wa.heap.size := by simp
      have hfb : Fol (withRec D T) W (Wa.putObj (D + 1) (.loop { rec0 .ready none with state := .busy })) :=
        (hf'.mono (fun _ _ e => .inl e)).trans (Grew.refl _ _) (putObj_fol Wa (D + 1) _ (.inl (.inr (.inr rfl))))
      have hmb : M x a1 pre T' (Wa.putObj (D + 1) (.loop { rec0 .ready none with state := .busy })) := (hM x a1).putObj _ hm hna2
      have hfw : Fol T0 w (Wa.putObj (D + 1) (.loop { rec0 .ready none with state := .busy })) :=
        ⟨hff.below.trans hfb.below, fun k hk1 ht => (hfb.block k (by omega) (fun e => by rcases e with e | e | e <;> first | exact (hgg k e).elim ht (fun e => by omega) | omega)).trans (hff.block k hk1 ht)⟩
      generalize Wa.putObj (D + 1) (.loop { rec0 .ready none with state := .busy }) = Wb at hl2 hk2 hsb hfb hmb hfw
      refine wpIn_mono (hbody (D + 1) pre x a1 T' Wb (by omega) hmb (hgg.trans hg' hff.size) hfw hx) ?_
      have fin : ∀ (jump : Option Code) (T3 : Bs) (W3 : World), Grew T' T3 Wb → Fol T' Wb W3 → ∃ W4, W4 = W3.putObj (D + 1) (.loop (rec0 (if jump.isNone then .ready else .done) jump)) ∧
          (Instr.endRound (D + 1) jump).run P W3 = .ok (.bool jump.isNone) W4 ∧ W4.heap[D + 1]? = some (.loop (rec0 (if jump.isNone then .ready else .done) jump)) ∧ W4.heap[D]? = some (.deferred (some [])) ∧
          Grew (withRec D T) (withRec D T3) W ∧ Fol (withRec D T) W W4 ∧ ¬ T3 D ∧ ¬ T3 (D + 1) := fun jump T3 W3 hg3 hf3 => by
        have hl3 := (hf3.block _ (by omega) hna2).trans hl2
        have hk3 := (hf3.block _ (by omega) hna1).trans hk2
        have hs3 := hf3.size
        have := run_endRound (P := P) jump hl3
        rw [hrec] at this
        refine ⟨_, rfl, by rw [hrec]; exact this, World.putObj_heap_same (by omega), (World.putObj_heap_other (by omega)).trans hk3, ?_, ?_, fun e => (hg3 _ e).elim hna1 (fun e => by omega), fun e => (hg3 _ e).elim hna2 (fun e => by omega)⟩
        · rintro k (e | e)
          · rcases hg3 k e with e | e
            · exact (hg' k e).imp .inl id
            · exact .inr (by omega)
          · exact .inl (.inr e)
        · have h1 : Fol (withRec D T) W W3 := ⟨hfb.below.trans hf3.below, fun k hk1 ht => (hf3.block k (by omega) (fun e => (hg' k e).elim (fun e => ht (.inl e)) (fun e => by omega))).trans (hfb.block k hk1 ht)⟩
          exact h1.trans (Grew.refl _ _) (putObj_fol W3 (D + 1) _ (.inl (.inr (.inr rfl))))
      rintro e a3 W3 hp
      cases e with
      | normal =>
        obtain ⟨T3, hg3, hf3, hi3⟩ := hp
        obtain ⟨W4, e4, h1, h2, h3, h4, h5, h6, h7⟩ := fin none T3 W3 hg3 hf3
        exact ⟨_, W4, h1, withRec D T3, h4, h5, .inl ⟨rfl, T3, rfl, by rw [e4]; exact hI.putObj _ hi3 h7, h6, h7, h2, h3⟩⟩
      | ret =>
        obtain ⟨T3, hg3, hf3, hi3⟩ := hp
        obtain ⟨W4, e4, h1, h2, h3, h4, h5, h6, h7⟩ := fin (some .ret) T3 W3 hg3 hf3
        exact ⟨_, W4, h1, withRec D T3, h4, h5, .inr ⟨rfl, .ret, T3, rfl, by rw [e4]; exact (hIx _).putObj _ hi3 h7, h6, h7, h2, h3⟩⟩
      | exit id =>
        obtain ⟨T3, hg3, hf3, hi3⟩ := hp
        obtain ⟨W4, e4, h1, h2, h3, h4, h5, h6, h7⟩ := fin (some (.exit id)) T3 W3 hg3 hf3
        exact ⟨_, W4, h1, withRec D T3, h4, h5, .inr ⟨rfl, .exit id, T3, rfl, by rw [e4]; exact (hIx _).putObj _ hi3 h7, h6, h7, h2, h3⟩⟩
      | goto t =>
        obtain ⟨T3, hg3, hf3, hi3⟩ := hp
        obtain ⟨W4, e4, h1, h2, h3, h4, h5, h6, h7⟩ := fin (some (.goto t)) T3 W3 hg3 hf3
        exact ⟨_, W4, h1, withRec D T3, h4, h5, .inr ⟨rfl, .goto t, T3, rfl, by rw [e4]; exact (hIx _).putObj _ hi3 h7, h6, h7, h2, h3⟩⟩
      | panic ch => exact hp.elim
      | outgrown => exact hp.elim
    | exit id => exact hp.elim
    | goto l => exact hp.elim
    | ret => exact hp.elim
    | panic ch => exact hp.elim
    | outgrown => exact hp.elim
  · exact ⟨T0, rfl, hI.later h0 hb1, fun e => by have := hT0 _ e; omega, fun e => by have := hT0 _ e; omega, hL1, hK1⟩
  · -- behind the function
    have ends : ∀ (r : Loop) (hr : r.state ≠ .busy) (T : Bs) (W2 : World), Grew (withRec D T0) (withRec D T) W1 → Fol (withRec D T0) W1 W2 → ¬ T D → ¬ T (D + 1) → W2.heap[D + 1]? = some (.loop r) → W2.heap[D]? = some (.deferred (some [])) →
        ∃ W3, W3 = W2.putObj (D + 1) (.loop { r with state := .exhausted }) ∧ (Instr.endLoop (D + 1)).run P W2 = .ok r.pending W3 ∧ Grew T0 T w ∧ Fol T0 w W3 ∧ D < W3.heap.size ∧ W3.heap[D]? = some (.deferred (some [])) := fun r hr T W2 hg2 hf2 hn1 hn2 hl hk => by
      refine ⟨_, rfl, run_endLoop hl hr, ?_, ?_, ?_, (World.putObj_heap_other (by omega)).trans hk⟩
      · intro k e
        rcases hg2 k (.inl e) with (e | e | e) | e
        · exact .inl e
        · exact .inr (by omega)
        · exact .inr (by omega)
        · exact .inr (by omega)
      · have h1 : Fol T0 w W2 := ⟨(hb1.mono (Nat.zero_le _)).trans hf2.below, fun k hk1 ht => (hf2.block k (by omega) (fun e => by rcases e with e | e | e <;> first | exact ht e | omega)).trans (hb1.block k hk1)⟩
        exact ⟨h1.below.trans (putObj_fol W2 (D + 1) (.loop { r with state := .exhausted }) (T := fun k => k = D + 1) (.inl rfl)).below, fun k hk1 ht => (World.putObj_heap_other (by omega)).trans (h1.block k hk1 ht)⟩
      · simp only [World.putObj_size]; exact lt_of_heap hk
    rintro e W2 ⟨⟨v, rfl⟩, T1, hg2, hf2, (⟨T, rfl, hi, hn1, hn2, hl, hk⟩ | ⟨pre, hpre, c, T, rfl, hi, hn1, hn2, hl, hk⟩)⟩
    · obtain ⟨W3, e3, h1, h2, h3, h4, h5⟩ := ends _ (by rw [hrec]; simp) T W2 hg2 hf2 hn1 hn2 hl hk
      rw [hrec] at h1
      exact ⟨none, W3, h1, hdone T W3 h2 h3 h4 (by rw [e3]; exact hI.putObj _ hi hn2) hn1 h5⟩
    · obtain ⟨W3, e3, h1, h2, h3, h4, h5⟩ := ends _ (by rw [hrec]; simp) T W2 hg2 hf2 hn1 hn2 hl hk
      rw [hrec] at h1
      exact ⟨some c, W3, h1, hstop c pre T W3 h2 h3 h4 hpre (by rw [e3]; exact (hIx c).putObj _ hi hn2) hn1 h5⟩
end Go.Proofs.Ytckpifcdlmfabaa
