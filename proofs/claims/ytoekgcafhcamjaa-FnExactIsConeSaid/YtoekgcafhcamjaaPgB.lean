/- Facts on bending that both sides want. -/
import Derived.Test.YtoekgcafhcamjaaPgT
namespace Go.Proofs.Ytoekgcafhcamjaa
open Go.RowKit Go.Lib

theorem grown_ofb {w w' : World} {r : Option Nat} (h : Below w.heap.size w w') : w.grownBy w' r := ⟨h.os, h.tape, h.output, h.size, fun q hq _ => h.block q hq⟩
theorem keepP2 {w W : World} {p q : Addr} {x y : Value} (h1 : W.cell? p = some x) (h2 : W.cell? q = some y) (h3 : Below w.heap.size w W) : W.drew.cell? p = some x ∧ W.drew.cell? q = some y ∧ Below w.heap.size w W.drew := ⟨h1, h2, h3.drew⟩
theorem keepQ2 {w W w1 : World} {p q : Addr} {x y : Value} (hp : p.block < w.heap.size) (hq : q.block < w.heap.size) (h1 : W.cell? p = some x) (h2 : W.cell? q = some y) (h3 : Below w.heap.size w W) (hb : Below W.heap.size W w1) :
    w1.cell? p = some x ∧ w1.cell? q = some y ∧ Below w.heap.size w w1 :=
  ⟨(hb.cell (Nat.lt_of_lt_of_le hp h3.size)).trans h1, (hb.cell (Nat.lt_of_lt_of_le hq h3.size)).trans h2, h3.trans (hb.mono h3.size)⟩
theorem egen {F : Exit → Act → World → Prop} {e : Exit} {a : Act} {w : World} (h : ∀ W, W = w → F e a W) : F e a w := h w rfl
def slen : Value → Nat
  | .slice _ n _ => n
  | _ => 0
theorem bendR_take {L : List P2} {k : Nat} (h : k < L.length) : bendR (L.take (k + 1)) = L[k] :: popR (bendR (L.take k)) L[k] := by
  unfold bendR
  rw [List.take_succ_eq_append_getElem h, List.foldl_append]; rfl
theorem bend_take_ok {L : List P2} (k : Nat) : (∀ p ∈ bendR (L.take k), p ∈ L) ∧ (bendR (L.take k)).length ≤ L.length := by
  constructor
  · intro p hp
    rcases bendR_mem (L.take k) [] p hp with h | h
    · cases h
    · exact List.mem_of_mem_take h
  · have := bendR_len (L.take k) []
    rw [List.length_take] at this
    unfold bendR
    simp only [List.length_nil] at this; omega
theorem BdP.wide {n m : Int} {p : P2} (h : BdP n p) (hm : n ≤ m) : BdP m p := by unfold BdP at *; omega
theorem bend_full {L : List P2} (h : 0 < L.length) : ∃ x t, bendR L = x :: t := by
  match L, h with
  | y :: l, _ =>
    unfold bendR
    rw [List.foldl_cons]
    have : ∀ (l acc : List P2), acc ≠ [] → l.foldl stepR acc ≠ [] := by
      intro l
      induction l with
      | nil => intro acc h; exact h
      | cons z l ih => intro acc _; exact ih _ (by simp [stepR])
    match hq : l.foldl stepR (stepR [] y), this l (stepR [] y) (by simp [stepR]) with
    | x :: t, _ => exact ⟨x, t, rfl⟩

end Go.Proofs.Ytoekgcafhcamjaa
