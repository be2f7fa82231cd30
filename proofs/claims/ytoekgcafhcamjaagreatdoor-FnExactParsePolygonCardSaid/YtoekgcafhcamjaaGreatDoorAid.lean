/- Small facts over any program: a string of one byte that the call makes. -/
import Derived.WalkKit
import Derived.Laws.BytesString
import Derived.Below
namespace Go.Proofs.YtoekgcafhcamjaaGreatDoor
open Go Go.RowKit

theorem run_one_byte {P : Program} (src dst e t : TypeId) (hs : P.underlying src = some (.slice e)) (he : P.underlying e = some (.int .u8)) (hd : P.underlying dst = some .string)
    (z : Int) (w : World) :
    (convert src dst (.slice (some ⟨w.heap.size, 0, none⟩) 1 1)).run P (w.alloc (.cells #[.int .u8 z] t)) = .ok (.string ⟨#[UInt8.ofNat z.toNat]⟩) (w.alloc (.cells #[.int .u8 z] t)) := by
  rw [run_convert_bytes_string _ src dst e _ _ _ hs he hd]
  rw [run_bytesToString _ _ 1 1 [z]]
  · rfl
  · refine run_loadCells_list _ _ [Value.int .u8 z] ?_
    intro j v hj
    match j, hj with
    | 0, hj =>
      simp only [List.getElem?_cons_zero, Option.some.injEq] at hj
      subst hj
      simp [Addr.add]
end Go.Proofs.YtoekgcafhcamjaaGreatDoor
