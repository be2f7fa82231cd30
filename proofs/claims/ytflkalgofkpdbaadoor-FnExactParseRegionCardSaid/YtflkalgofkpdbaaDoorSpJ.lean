/- The parts of a text, joined again. -/
import Derived.Test.YtflkalgofkpdbaaDoorPv
import Derived.Test.YtflkalgofkpdbaaDoorTxt
namespace Go.Proofs.YtflkalgofkpdbaaDoor
open Go.RowKit Go.Lib

theorem join_sp (c : UInt8) : ∀ l : List UInt8, Lib.join (sp c l) [c] = l
  | [] => by simp [sp, join_one]
  | b :: r => by
    have ih := join_sp c r
    unfold sp
    cases hs : sp c r with
    | nil => exact absurd hs (sp_ne c r)
    | cons h t =>
      rw [hs, join_cons] at ih
      split
      · rename_i hb
        subst hb
        rw [join_cons]
        have e : joinTail [b] (h :: t) = b :: (h ++ joinTail [b] t) := by simp [joinTail]
        rw [e, ih]; rfl
      · simp only [join_cons, List.cons_append]
        rw [ih]
theorem jn_parts (c : UInt8) (l : List UInt8) : jn [c] (parts c l) = l := by
  unfold jn parts
  rw [List.map_map]
  have : (sp c l).map ((fun x : ByteArray => x.data.toList) ∘ fun x => (⟨x.toArray⟩ : ByteArray)) = sp c l := by
    conv => rhs; rw [← List.map_id (sp c l)]
    exact List.map_congr_left (fun a _ => rfl)
  rw [this, join_sp]
/-- The numeral of what was read is what was read. -/
theorem rdI_text {l : List UInt8} (h : (rdI l).2 = true) : itoa (rdI l).1 = l := by
  unfold rdI at h ⊢
  split at h
  · split at h
    · rename_i h1
      rw [if_pos h1]
      exact h1.1.symm
    · cases h
  · cases h
theorem bytes_back (s : ByteArray) : (⟨s.data.toList.toArray⟩ : ByteArray) = s := by simp
theorem rdS_text {s : ByteArray} (h : (rdS s).2 = true) : numeral (rdS s).1 = s := by
  unfold numeral rdS
  rw [rdI_text h, bytes_back]
theorem fsts_text : ∀ {ps : List ByteArray}, oks ps = true → numerals (fsts ps) = ps
  | [], _ => rfl
  | p :: ps, h => by
    unfold oks at h
    rw [List.all_cons, Bool.and_eq_true] at h
    have ih := fsts_text (ps := ps) h.2
    have e : numerals (fsts (p :: ps)) = numeral (rdS p).1 :: numerals (fsts ps) := rfl
    rw [e, ih, rdS_text h.1]
theorem parsV_text {l : List UInt8} (h : (parsV l).2 = true) : textL (parsV l).1 = l := by
  unfold parsV parsP at h ⊢
  split at h
  · rename_i h1
    rw [if_pos h1]
    unfold vecR at h ⊢
    split at h
    · rename_i h2
      rw [if_pos h2]
      show jn [44] (numerals (fsts (parts 44 l))) = l
      rw [fsts_text h1, jn_parts]
    · cases h
  · cases h
end Go.Proofs.YtflkalgofkpdbaaDoor
