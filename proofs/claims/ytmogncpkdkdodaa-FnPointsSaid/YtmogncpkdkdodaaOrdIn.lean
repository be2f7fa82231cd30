/- A region that draws its order in a round: what serves outside serves there. -/
import Derived.Test.YtmogncpkdkdodaaRng
import Derived.Test.YtmogncpkdkdodaaOrd
import Derived.OrdersIn
namespace Go.Proofs.Ytmogncpkdkdodaa
open Go Go.RowKit

/-- No 'defer' statement. -/
def noDefer (o : Oper) : Bool := match o.op with
  | .defer _ => false
  | _ => true
theorem noDefer_all {ops : Array Oper} (h : ops.toList.all noDefer = true) (i : Nat) (o : Oper) (c) (he : ops[i]? = some o) : o.op ≠ .defer c := by
  intro e
  have hm : o ∈ ops.toList := by
    rw [← Array.getElem?_toList] at he
    exact List.mem_of_getElem? he
  have := List.all_eq_true.1 h o hm
  unfold noDefer at this
  rw [e] at this
  cases this

theorem op_into {P : Program} {o : Oper} {a : Act} {w : World} {K : Act → World → Prop} {Q : Exit → Act → World → Prop} {l n : Nat} (hd : ∀ c, o.op ≠ .defer c)
    (h : o.wp P a w K Q) : o.wpIn (Fence.wide.inRound l) n P a w K Q := by
  refine ⟨fun _ _ => trivial, ?_⟩
  rw [Oper.semAt_eq _ _ _ hd]
  unfold Oper.wp at h
  revert h
  generalize (execOp a.eval o).run P w = r
  intro h
  cases r with
  | ok nx w' =>
    cases nx with
    | value v => exact h
    | skip => exact h
    | defer d => exact h
    | enter f args => exact ⟨fun e => by simp [Fence.wide] at e, (callsIn_wide (n := n - 1)).2 h⟩
    | row r args => exact ⟨fun e => by simp [Fence.wide] at e, fun c cs _ => let ⟨v, w'', q, s⟩ := h c cs; ⟨v, w'', q, stepsIn_wide.2 s⟩⟩
    | _ => exact (h : False).elim
  | halt hh w' => cases hh <;> first | exact h | exact (h : False).elim
theorem any_into {P : Program} {md : Region.Mode} {ops : Array Oper} {Q : Exit → Act → World → Prop} {l n : Nat} (hd : ∀ (i : Nat) (o : Oper) c, ops[i]? = some o → o.op ≠ .defer c) (hl : ¬ LetsOut Q) :
    ∀ (f : Nat) (listed : Array Bool) (a : Act) (w : World), wpAny P md ops Q f listed a w → wpAnyIn (Fence.wide.inRound l) n P md ops Q f listed a w
  | 0, _, _, _, h => h
  | f + 1, listed, a, w, h => by
    refine ⟨h.1, fun i hi => ?_⟩
    have h1 := h.2 i hi
    unfold wpOp at h1
    unfold wpOpIn
    split at h1
    · rename_i e
      rw [e]
      exact any_into hd hl f _ _ _ h1
    · rename_i o e
      rw [e]
      simp only
      split at h1
      · rename_i hw
        rw [if_pos hw]
        exact op_into (fun c => hd i o c e) (Oper.wp_mono (fun a w k => any_into hd hl f _ a w k) (h1.resolve_right fun k => hl k.2))
      · rename_i hw
        rw [if_neg hw]
        exact ⟨fun _ _ => trivial, any_into hd hl f _ _ _ h1⟩
/-- **A region that draws its order, in a round.** -/
theorem region_into {P : Program} {ops : Array Oper} {id : Nat} {Q : Exit → Act → World → Prop} {a : Act} {w : World} {l n : Nat} (hd : ∀ (i : Nat) (o : Oper) c, ops[i]? = some o → o.op ≠ .defer c) (hl : ¬ LetsOut Q) (hm : P.follows .mixedOrders = true)
    (h : wpAny P .any ops Q ops.size (Array.replicate ops.size false) a w.drew) : (Code.region id ops true).wpIn (Fence.wide.inRound l) n P Q a w :=
  wpIn_region_any hm (any_into hd hl _ _ _ _ h)
theorem T_into {P : Program} {ops : Array Oper} {id : Nat} {Q : Exit → Act → World → Prop} {S : World → Prop} {z : Nat → Bool} {a : Act} {w : World} {l n : Nat} (hd : ops.toList.all noDefer = true) (hl : ¬ LetsOut Q) (hm : P.follows .mixedOrders = true)
    (h : wpAnyT P .any ops Q S z ops.size (Array.replicate ops.size false) a w.drew) : (Code.region id ops true).wpIn (Fence.wide.inRound l) n P Q a w :=
  region_into (noDefer_all hd) hl hm (any_of_T _ _ _ _ h)
/-- Number i, whose guard is not met, may be taken first. -/
theorem T_skip {P : Program} {md : Region.Mode} {ops : Array Oper} {Q : Exit → Act → World → Prop} {S : World → Prop} {z : Nat → Bool} {i : Nat} {oi : Oper} {f : Nat} {listed : Array Bool} {a : Act} {w : World} (hi : ops[i]? = some oi) (hs : Region.noSelect ops = true) (hf : Region.free md ops listed i = true) (hr : (Region.ready md ops listed).contains i = true) (hz : waitsB md ops z i = true)
    (hQ : ∀ c a w, Q (.panic c) (a.put oi.dst undef) w → Q (.panic c) a w) (hS : S w) (hw : Region.wanted oi (yielded ops a.tmps) = false)
    (h : wpAnyT P md ops Q S z f (listed.setIfInBounds i true) (a.put oi.dst undef) w) : wpAnyT P md ops Q S z (f + 1) listed a w :=
  T_first hi (Region.noSelect_spec hs) hQ (waitsB_spec hz) f listed a w (Region.free_spec hi hf) (by simpa using hr) (.inr ⟨hw, rfl⟩) hS h
end Go.Proofs.Ytmogncpkdkdodaa
