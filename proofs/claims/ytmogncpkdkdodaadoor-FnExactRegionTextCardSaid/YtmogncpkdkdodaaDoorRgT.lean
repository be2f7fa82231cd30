/- Plain facts on the text of a region. -/
import Derived.Test.YtmogncpkdkdodaaDoorTxt
import Derived.Test.YtmogncpkdkdodaaDoorRegI
namespace Go.Proofs.YtmogncpkdkdodaaDoor
open Go.RowKit Go.Lib

/-- The text of a region. -/
def regTx (n : Int) (hs : List Hf) : List UInt8 := regL textL itoa n hs
def regT (n : Int) (hs : List Hf) : List UInt8 := if regOk n hs = true then regTx n hs else []
theorem textL_len (v : List Int) (h : W64 v) : (textL v).length ≤ 22 * v.length := by
  have h1 := join_len [44] (numerals v)
  have h2 := numerals_sizes v h
  rw [numerals_len] at h1
  unfold textL
  simp only [List.length_cons, List.length_nil] at h1
  omega
/-- What is known of a half whose text is made. -/
def TxOk (h : Hf) : Prop := h.1.length ≤ 3 ∧ W64 h.1 ∧ -9223372036854775808 ≤ h.2 ∧ h.2 ≤ 9223372036854775807
theorem halfOk_tx {n : Int} {h : Hf} (k : halfOk n h = true) : TxOk h := by
  have h1 := halfOk_t k
  exact ⟨by omega, h1.2.2.2.1.w64 (by omega), by omega, by omega⟩
theorem halfL_len {h : Hf} (k : TxOk h) : (halfL textL itoa h).length ≤ 100 := by
  have h1 := textL_len h.1 k.2.1
  have h2 := itoa_length_le h.2 k.2.2.1 k.2.2.2
  have h3 := k.1
  unfold halfL
  simp only [List.length_cons, List.length_append]
  omega
theorem regTx_len : ∀ (n : Int) (hs : List Hf), (∀ h ∈ hs, TxOk h) → -9223372036854775808 ≤ n → n ≤ 9223372036854775807 → (regTx n hs).length ≤ 21 + 100 * hs.length
  | n, [], _, h0, h1 => by
    have := itoa_length_le n h0 h1
    simp only [regTx, regL, List.flatMap_nil, List.append_nil, List.length_nil]; omega
  | n, h :: hs, e, h0, h1 => by
    have ih := regTx_len n hs (fun k hk => e k (List.mem_cons_of_mem _ hk)) h0 h1
    have hh := halfL_len (e h (List.mem_cons_self ..))
    simp only [regTx, regL, List.flatMap_cons, List.length_append, List.length_cons] at ih ⊢
    omega
theorem regTx_take {n : Int} {hs : List Hf} {k : Nat} (h : k < hs.length) : regTx n (hs.take (k + 1)) = regTx n (hs.take k) ++ 59 :: (textL hs[k].1 ++ 60 :: itoa hs[k].2) := reg_take h
theorem regT_len (n : Int) (hs : List Hf) : (regT n hs).length ≤ 900 := by
  unfold regT
  split
  · rename_i h
    have h1 := regOk_t h
    have := regTx_len n hs (fun k hk => by
      obtain ⟨i, hi, rfl⟩ := List.mem_iff_getElem.1 hk
      exact halfOk_tx (h1.2.2.2 i hi)) (by omega) (by omega)
    omega
  · simp
/-- The parts of a region's text. -/
def halfB (h : Hf) : ByteArray := ⟨(textL h.1 ++ 60 :: itoa h.2).toArray⟩
def regB (n : Int) (hs : List Hf) : List ByteArray := numeral n :: hs.map halfB
theorem regB_len (n : Int) (hs : List Hf) : (regB n hs).length = hs.length + 1 := by simp [regB]
theorem regB_take {n : Int} {hs : List Hf} {k : Nat} (h : k < hs.length) : regB n (hs.take (k + 1)) = regB n (hs.take k) ++ [halfB hs[k]] := by
  unfold regB
  rw [List.take_succ_eq_append_getElem h, List.map_append]; rfl
theorem regB_tk {n : Int} {hs : List Hf} (k : Nat) : (regB n hs).take (k + 1) = regB n (hs.take k) := by
  simp [regB, List.map_take]
theorem regB_jn (n : Int) (hs : List Hf) : ∀ k, k ≤ hs.length → jn [59] (regB n (hs.take k)) = regTx n (hs.take k)
  | 0, _ => by simp [regB, jn_one, regTx, regL, numeral]
  | k + 1, hk => by
    have ih := regB_jn n hs k (by omega)
    rw [regTx_take (by omega), ← ih, ← regB_tk, ← regB_tk, jn_step [59] (regB n hs) (k + 1) (by rw [regB_len]; omega) (by omega)]
    have e : (regB n hs)[k + 1]'(by rw [regB_len]; omega) = halfB hs[k] := by simp [regB]
    rw [e]
    simp [halfB]
theorem regB_join (n : Int) (hs : List Hf) : jn [59] (regB n hs) = regTx n hs := by
  have h := regB_jn n hs hs.length (Nat.le_refl _)
  rwa [List.take_length] at h
theorem halfB_size {h : Hf} (k : TxOk h) : (halfB h).size ≤ 100 := by
  have h1 := halfL_len k
  unfold halfL at h1
  simp only [List.length_cons] at h1
  show (textL h.1 ++ 60 :: itoa h.2).toArray.size ≤ 100
  simp only [List.size_toArray]
  omega
theorem regB_sizes : ∀ (n : Int) (hs : List Hf), (∀ h ∈ hs, TxOk h) → -9223372036854775808 ≤ n → n ≤ 9223372036854775807 → sizes (regB n hs) ≤ 21 + 100 * hs.length
  | n, [], _, h0, h1 => by
    have := numeral_size n h0 h1
    simp only [regB, sizes, List.map_cons, List.map_nil, List.sum_cons, List.sum_nil, List.length_nil]; omega
  | n, h :: hs, e, h0, h1 => by
    have ih := regB_sizes n hs (fun k hk => e k (List.mem_cons_of_mem _ hk)) h0 h1
    have hh := halfB_size (e h (List.mem_cons_self ..))
    simp only [regB, sizes, List.map_cons, List.sum_cons, List.length_cons] at ih ⊢
    omega
end Go.Proofs.YtmogncpkdkdodaaDoor
