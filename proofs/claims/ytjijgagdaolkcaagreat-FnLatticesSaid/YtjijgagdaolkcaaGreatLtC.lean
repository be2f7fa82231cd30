/- The keys of a set of triples, collected: maps.Keys, slices.AppendSeq, slices.Collect. -/
import Derived.Test.YtjijgagdaolkcaaGreatLtK
import Derived.Test.YtjijgagdaolkcaaGreatMav
import Derived.Maps.OwnIn
import Derived.Maps.AppendAt
import Derived.Sort.MapsRangeIn
import Derived.RangeFuncNested
import Derived.RangeFuncBound
import Derived.RangeFuncCalls
import Derived.RangeFuncLeaves
import Derived.RangeFuncGives
import Derived.Shelf.RegionOpen
import Derived.Shelf.Abstract
import Derived.OwnWalkIn
import Derived.TacticsInMore
import Derived.LoopNIn
import Derived.LoopIn
namespace Go.Proofs.YtjijgagdaolkcaaGreat
open Go Go.RowKit Go.Lib Go.Shelf Go.Maps

attribute [local go_sem] Oper.semAt_some

/-- The keys met so far. -/
def ColT (D0 : DataW Unit) (left : Lit → Bool) (ss : List T3) : Prop := ss.Nodup ∧ ∀ t, t ∈ ss ↔ (W3 t ∧ has D0 (klT t) = true ∧ left (klT t) = false)
theorem ColT.start (D0 : DataW Unit) : ColT D0 (has D0) [] := ⟨List.nodup_nil, fun t => by cases has D0 (klT t) <;> simp⟩
theorem ColT.step {D0 : DataW Unit} {left : Lit → Bool} {ss : List T3} (h : ColT D0 left ss) {x : T3} (hx : W3 x) {y : DataW Unit} (hlk : left (klT x) = true) (hat : ∀ zd, D0.atKey (klT x) zd = y) : ColT D0 (fun z => left z && !z.sameKey (klT x)) (ss ++ [x]) := by
  have hhas : has D0 (klT x) = true := has_true_of_atKey hat
  have hnew : x ∉ ss := fun hm => by have := ((h.2 x).1 hm).2.2; rw [hlk] at this; cases this
  refine ⟨List.nodup_append.2 ⟨h.1, by simp, fun a ha b hb => by simp at hb; subst hb; exact fun e => hnew (e ▸ ha)⟩, fun t => ?_⟩
  by_cases ht : t = x
  · subst ht; simp [hhas, hx, WideAt.sameKey_self (klT_key hx)]
  · simp only [List.mem_append, List.mem_singleton, ht, or_false, h.2 t]
    constructor
    · rintro ⟨h1, h2, h3⟩; exact ⟨h1, h2, by simp [h3]⟩
    · rintro ⟨h1, h2, h3⟩
      refine ⟨h1, h2, ?_⟩
      cases hl : left (klT t)
      · rfl
      · rw [hl] at h3
        simp at h3
        exact absurd (klT_inj h1 hx (WideAt.sameKey_eq h3)) ht
theorem size_le {w : World} {b n : Nat} {D : DataW Unit} {R : Value → Option (DataW Unit × List MemPlace)} {k : TypeId} {P : Program} (h : w.ownsMap P k R b n D) : Maps.size D ≤ n := by
  obtain ⟨es, clock, _, _, hs, rfl⟩ := h
  simpa [Maps.size, length_sorted] using hs

/-- What comes of the keys: all of S, each once. -/
def AllT (S xs : List T3) : Prop := xs.Nodup ∧ ∀ t, t ∈ xs ↔ (W3 t ∧ t ∈ S)

set_option maxRecDepth 100000 in
set_option maxHeartbeats 1600000 in
theorem i_keys1 (Bm b N : Nat) (S : List T3) (w : World) (hBm : Bm < w.heap.size) (hm : w.cell? ⟨Bm, 0, none⟩ = some (.map (some b))) (hown : SetM w b N S) :
    SeqStopsK Fence.wide 8 Tryz.prog 83 #[.pointer (some ⟨Bm, 0, none⟩)] (fun t : T3 => #[encV t]) KeepsWalks (AllT S) (fun _ => True) N w := by
  intro l J Jx W hW hJ _ hY h0
  obtain ⟨D0, ho, hS, _, _⟩ := hown.below hW
  replace hm := (hW.cell (p := ⟨Bm, 0, none⟩) hBm).trans hm
  have hsz := size_le ho
  refine callsIn_of_wp Tryz.func83 rfl trivial ?_ rfl
  simp only [Tryz.ntmps83, List.size_toArray, List.length_cons, List.length_nil, Nat.reduceAdd, Nat.reduceSub, Array.replicate_succ, Array.replicate_zero, List.push_toArray, List.append_toArray, List.nil_append, List.cons_append]
  gi_wp2_with (first
    | (gi_at_range; refine wpListIn_range_own _ rfl _ 73 rfl 43 4 lawT Tryz.underlying73 _ b N _ rfl ho ?_; intro w0 hrg0 hg0 hs0)
    | gi_in)
  try go_frame
  gi_loopw [3] (fun _ wr => ∃ (left : Lit → Bool) (cnt : Nat) (ss : List T3), wr.ranges Tryz.prog 43 (plainElem Tryz.prog 4) b W.heap.size N D0 left cnt ∧ ss.length + cnt ≤ Maps.size D0 ∧ ColT D0 left ss ∧ J ss wr)
    (fun _ wr => wr.rangeLeft b W.heap.size)
  case atStart =>
    exact ⟨_, _, [], hrg0, by simp, ColT.start D0, hJ [] W w0 none h0 hg0 (fun r e => by cases e)⟩
  case round =>
    obtain ⟨left, cnt, ss, hrg, hcs, hC, hJs⟩ := hrel
    gi_wp2_with (first
      | (gi_at_next; refine wpListIn_next_ranges _ rfl _ rfl 43 lawT (plainElem Tryz.prog 4) encV id (fun key kl hk => by obtain ⟨x, _, hx, _⟩ := keyT_inv hk; exact ⟨x, hx⟩) (fun v _ _ => ⟨v, rfl⟩) b W.heap.size N _ _ _ rfl hrg (fun hc0 hl0 => ?_) (fun x c kl y w2 cnt2 hkey hlk hv hat hrg2 hlt hg2 hs2 hen => ?_); rotate_left; obtain ⟨x0, x1, x2⟩ := x; have HKEY := Lib.hid hkey; have HEN := Lib.hid hen; clear hkey hen hs2; unfold encV; simp only; have hen : (Instr.entry (.pointer (some ⟨W.heap.size, 0, none⟩))).run Tryz.prog w2 = .ok (.tuple #[.agg #[.int .i64 x0, .int .i64 x1, .int .i64 x2], c]) w2 := HEN.out; rotate_right)
      | gi_in)
    · gi_wp2
      go_end0
      exact ⟨⟨_, rfl⟩, .inl ⟨ss, ⟨hC.1, fun t => by
        rw [hC.2 t, hl0]
        constructor
        · rintro ⟨h1, h2, _⟩; exact ⟨h1, by rw [hS t h1] at h2; simpa using h2⟩
        · rintro ⟨h1, h2⟩; exact ⟨h1, by rw [hS t h1]; simpa using h2, rfl⟩⟩, hJs⟩⟩
    · obtain ⟨x', hx', ex, rfl⟩ := keyT_inv HKEY.out
      obtain rfl := encV_inj ex
      have hJ2 : J ss w2 := hJ ss wr w2 (some W.heap.size) hJs hg2 (fun r e => by cases e; exact ⟨Nat.le_refl _, hrg.iter_walk⟩)
      have hrg4 : (w2.alloc (.cells #[.int .i64 x0, .int .i64 x1, .int .i64 x2] 43)).ranges Tryz.prog 43 (plainElem Tryz.prog 4) b W.heap.size N D0 (fun z => left z && !z.sameKey (klT (x0, x1, x2))) cnt2 := hrg2.alloc _
      have hJ4 : J ss (w2.alloc (.cells #[.int .i64 x0, .int .i64 x1, .int .i64 x2] 43)) := hJ ss w2 _ none hJ2 (World.grownBy_alloc w2 _ none) (fun r e => by cases e)
      obtain ⟨fn, tmps, assign, body, hy, hR⟩ := hY ss (x0, x1, x2) _ hJ4 (by omega)
      have hC2 := hC.step hx' hlk hat
      unfold encV at hy
      simp only at hy
      rw [hy]
      gi_wp2
      refine hR.mono ?_
      rintro e W3 (⟨rfl, hJ3, hk3⟩ | ⟨rfl, hJx3⟩)
      · gi_wp2
        have hrg3 := hrg4.of_walks hk3
        go_roundw
        case rel => exact ⟨_, cnt2, ss ++ [(x0, x1, x2)], hrg3, by simp; omega, hC2, hJ3⟩
        case measure => rw [hrg3.left_eq, hrg.left_eq]; exact hlt
      · gi_wp2
        refine bodyPost_ret (results_none rfl _ _ _) rfl ?_
        exact ⟨⟨_, rfl⟩, .inr ⟨_, trivial, hJx3⟩⟩

/-- The cells of a triple. -/
def enc3 (t : T3) : List Value := [.int .i64 t.1, .int .i64 t.2.1, .int .i64 t.2.2]
theorem enc3_len (t : T3) : (enc3 t).length = 3 := rfl
theorem enc3_one (t : T3) : ∀ v ∈ enc3 t, v.oneCell' = true := by
  intro v hv
  simp only [enc3, List.mem_cons, List.not_mem_nil, or_false] at hv
  rcases hv with rfl | rfl | rfl <;> rfl
abbrev Ow3 (lo hi : Nat) (w : World) (v : Value) (l : List T3) : Prop := OwE enc3 3 43 lo hi w v l
theorem keeps_walks {W W' : World} (h : KeepsOthers W W') : KeepsWalks W W' := ⟨h.size, fun k o hk hw => h.same k o hk (by cases o <;> simp_all [Obj.isWalk, Obj.isCells])⟩
/-- What a list of triples in a block of the call's own is left as. -/
def Made3 (S : List T3) (w : World) (e : Ending) (w' : World) : Prop := ∃ (v : Value) (xs : List T3), e = .returned v ∧ AllT S xs ∧ Ow3 w.heap.size w'.heap.size w' v xs ∧ Below w.heap.size w w'

set_option maxRecDepth 100000 in
set_option maxHeartbeats 3200000 in
theorem i_aseq (Bm b N : Nat) (S : List T3) (w : World) (hBm : Bm < w.heap.size) (hm : w.cell? ⟨Bm, 0, none⟩ = some (.map (some b))) (hown : SetM w b N S) (hN : N ≤ 1048576) :
    CallsIn Fence.wide 9 Tryz.prog 98 #[.slice none 0 0, .func (.func 83) #[] #[.pointer (some ⟨Bm, 0, none⟩)]] w (Made3 S w) := by
  obtain ⟨i0, hi, hz0, hz1, hz2⟩ := info_parts info_nums
  have hseq := i_keys1 Bm b N S w hBm hm hown
  clear hm hown
  refine callsIn_of_wp_marks Tryz.func98 rfl trivial ?_ rfl
  simp only [Tryz.ntmps98, List.size_toArray, List.length_cons, List.length_nil, Nat.reduceAdd, Nat.reduceSub, Array.replicate_succ, Array.replicate_zero, List.push_toArray, List.append_toArray, List.nil_append, List.cons_append]
  gi_wp2
  refine wpIn_rangeFunc_ownH rfl (by omega) (gf := 83) (lb := #[.pointer (some ⟨Bm, 0, none⟩)]) rfl trivial
    (enters_of Tryz.func83 (by kernel_rfl) rfl) hseq walksK_t walksK_b (below1 w _) (fun _ => rfl)
    (fun pre W => (∃ v, Boxed W w.heap.size 47 v ∧ W.ownsRow w.heap.size 43 3 v pre.length (pre.flatMap enc3) ∧ True) ∧ Below w.heap.size w W) (fun _ _ _ => False)
    (OwnFrom.and (Own.from (holdsRow_own w.heap.size w.heap.size 47 43 3 (fun pre : List T3 => pre.length) (fun pre => pre.flatMap enc3) (fun _ _ => True)) _) (ownFrom_below (Nat.le_refl _) (by simp)))
    (fun _ _ _ _ _ h => h.elim) ⟨⟨_, Boxed.new w _ _, World.ownsRow_nil _ _ _ _, trivial⟩, below1 w _⟩
    (fun x a' W => ∃ Bx, w.heap.size < Bx ∧ Bk W Bx #[.int .i64 x.1, .int .i64 x.2.1, .int .i64 x.2.2] 43 ∧ a' = { tmps := #[.slice none 0 0, .func (.func 83) #[] #[.pointer (some ⟨Bm, 0, none⟩)], .pointer (some ⟨w.heap.size, 0, none⟩), undef, .slice none 0 0, .pointer (some ⟨Bx, 0, none⟩), .func (.func 83) #[] #[.pointer (some ⟨Bm, 0, none⟩)], .agg #[.int .i64 x.1, .int .i64 x.2.1, .int .i64 x.2.2], undef, undef, undef, undef, undef], defers := [] })
    (fun x a' => ?own) ?assign ?body ?done ?stop
  case own =>
    rintro _ X Y row ⟨Bx, h1, h2, h3⟩ hg hr
    refine ⟨Bx, h1, (hg.block Bx h2.lt (fun e => ?_)).trans h2, h3⟩
    obtain ⟨_, o, ho, hc⟩ := hr Bx e.symm
    rw [show X.heap[Bx]? = _ from h2] at ho
    cases ho; cases hc
  case assign =>
    rintro l pre ⟨x0, x1, x2⟩ W K hi hK
    unfold encV
    simp only
    gi_wp2
    obtain ⟨⟨v, hv, hrow, _⟩, hB⟩ := hi
    have hlt := hv.lt
    refine hK _ _ ((KeepsOthers.alloc _ _).from _) (KeepsWalks.alloc _ _) ⟨⟨v, hv.alloc _, hrow.alloc _, trivial⟩, hB.alloc hB.size _⟩ ⟨W.heap.size, hlt, Bk.new W #[.int .i64 x0, .int .i64 x1, .int .i64 x2] 43, rfl⟩
  case body =>
    rintro l pre ⟨x0, x1, x2⟩ a' W hl hr ⟨⟨v, hv, hrow, _⟩, hB⟩ ⟨Bx, hBx, hk, rfl⟩ hlen
    have hc := hv.cell
    obtain ⟨c0, c1, c2⟩ := bk3t hk
    simp only at c0 c1 c2
    have hle : w.heap.size ≤ W.heap.size := hB.size
    gi_wp2_with (gi_at_builtin; refine wpListIn_append_own _ rfl _ _ 47 rfl w.heap.size 43 i0 _ 3 24 Tryz.underlying47 hi hz0 hz1 hz2 rfl (by decide) v pre.length (pre.flatMap enc3) rfl (hrow.alloc _) ⟨W.heap.size, 0, none⟩ 1 1 [.int .i64 x0, .int .i64 x1, .int .i64 x2] rfl rfl (World.news_of_block (cs := #[.int .i64 x0, .int .i64 x1, .int .i64 x2]) (heap_alloc_new W _)) (enc3_one (x0, x1, x2)) (by unfold maxLen; omega) (by omega) (by simp; omega) ?_; intro v' w1 hown' hgrow _
                 obtain ⟨g', cap', rfl⟩ := ownsRow_succ hown'
                 obtain ⟨hv1, hv2, hr2, hk2, hb2⟩ := hv.appended (by decide) hrow hB.size (Nat.le_refl _) hown' hgrow
                 have hc1 := hv1.cell
                 have hf1 := hv1.frozen)
    refine ⟨hk2.from _, keeps_walks hk2, ⟨_, hv2, ?_⟩, hB.trans hb2⟩
    rw [List.length_append, List.length_singleton, List.flatMap_append]
    simpa [enc3] using hr2
  case done =>
    rintro D xs W hD hS ⟨⟨v, hv, hrow, _⟩, hB⟩ hK
    have hc := hv.cell
    gi_wp2
    refine ⟨by simp, .inl ⟨_, _, rfl, run_takeDeferred hK, ?_⟩⟩
    have hr3 := ownsRow_putObj hrow (.deferred none) hK rfl
    exact ⟨_, results_tmp rfl _ _ _, v, xs, rfl, hS, ⟨hr3, fun b hb => (hr3.lt b hb).2⟩, hB.trans (belowK_b (w := w) (Nat.le_refl _) W D _ _ (by simp at hD; omega) hK rfl rfl)⟩
  case stop =>
    rintro D c pre W hD _ h
    exact h.elim
end Go.Proofs.YtjijgagdaolkcaaGreat
