/- A region that draws its order and holds a call: its ways meet again behind it. -/
import Derived.Test.YtjijgagdaolkcaaGreatCom
import Derived.Deep.RegionWith
namespace Go.Proofs.YtjijgagdaolkcaaGreat
open Go Go.RowKit

/-- The end of the region: this frame, a world of which S holds. -/
def Meet (b : Act) (S : World → Prop) : Exit → Act → World → Prop
  | .normal, a', w' => a' = b ∧ S w'
  | _, _, _ => False
theorem region_meet {P : Program} {c : Code} {Q : Exit → Act → World → Prop} {a : Act} {w : World} (f : Act → Act) (S : World → Prop) (h1 : ∀ b, Hid (b = f a) → Code.wp P c (Meet b S) a w) (h2 : ∀ w', S w' → Q .normal (f a) w') : Code.wp P c Q a w :=
  Code.wp_mono (fun e a' w' h => by
    cases e <;> first | exact (h : False).elim | exact (show a' = f a from h.1) ▸ h2 w' h.2) (h1 (f a) (Lib.hid rfl))
/-- The world under one name. -/
theorem wgen {P : Program} {c : Code} {Q : Exit → Act → World → Prop} {a : Act} {w : World} (h : ∀ W, W = w → Code.wp P c Q a W) : Code.wp P c Q a w := h w rfl
/-- A row of three places is stored in a world that has grown since. -/
def CutS (W : World) (B o : Nat) (x y z : Int) (wx : World) : Prop := ∃ V, Below W.drew.heap.size W.drew V ∧ wx = ((V.setCell ⟨B, o, none⟩ (.int .i64 x)).setCell ⟨B, o + 1, none⟩ (.int .i64 y)).setCell ⟨B, o + 2, none⟩ (.int .i64 z)
end Go.Proofs.YtjijgagdaolkcaaGreat
