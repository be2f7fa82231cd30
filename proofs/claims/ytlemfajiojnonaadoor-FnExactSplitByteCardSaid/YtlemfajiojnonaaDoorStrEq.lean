/- Equality of two slices of strings. -/
import Derived.Test.YtlemfajiojnonaaDoorCom
import Derived.Test.YtlemfajiojnonaaDoorSl
import Derived.Test.YtlemfajiojnonaaDoorProg
import Derived.WalkLawsBesides
import Derived.WalkSpells
import Derived.BigQuiet
import Derived.Deep.QuietTactic
namespace Go.Proofs.YtlemfajiojnonaaDoor
open Go.RowKit Go.Lib

theorem strVals_ne {ss tt : List ByteArray} {k : Nat} (hk : k < ss.length) (hk' : k < tt.length) (h : ss[k] ≠ tt[k]) : ss ≠ tt := by
  intro e; subst e; exact h rfl
/-- Equality of two lists of strings, as a Bool that the walk leaves closed. -/
def eqStr (ss tt : List ByteArray) : Bool := decide (ss = tt)

set_option maxRecDepth 100000 in
set_option maxHeartbeats 400000 in
theorem eq_str (ss tt : List ByteArray) (v u : Value) (w : World) (hv : Sl w v (strVals ss)) (hu : Sl w u (strVals tt)) :
    Calls Tryd.prog 22 #[v, u] w fun e w' => e = .returned (.bool (eqStr ss tt)) ∧ Below w.heap.size w w' := by
  obtain ⟨a, c, rfl, hm, hopen⟩ := hv.shape
  obtain ⟨a', c', rfl, hm', hopen'⟩ := hu.shape
  rw [strVals_len] at hm hopen hm' hopen'
  rw [strVals_len, strVals_len]
  unfold maxLen at hm hm'
  have HO := Lib.hid hopen
  have HO' := Lib.hid hopen'
  clear hopen hopen' hv hu
  by_cases hlen : ss.length = tt.length
  · have hne : ((ss.length : Int) != (tt.length : Int)) = false := by simp [hlen]
    have HL := Lib.hid hlen
    have hl1 : ss.length ≤ tt.length := by omega
    have hl2 : tt.length ≤ ss.length := by omega
    clear hlen
    go_enter Tryd.func22, Tryd.ntmps22
    go_wp2
    go_loopw [5] (fun i wr => ∃ k : Nat, k ≤ ss.length ∧ i = .int .i64 k ∧ ss.take k = tt.take k ∧ Below w.heap.size w wr) (fun i _ => ss.length - (intOf i).toNat)
    case atStart => exact ⟨0, Nat.zero_le _, rfl, rfl, Below.refl _ _⟩
    case round =>
      obtain ⟨k, hk, rfl, ht, hbr⟩ := hrel
      have HT := Lib.hid ht
      have HB := Lib.hid hbr
      clear ht
      by_cases hlt : k < ss.length
      · obtain ⟨b, off, rfl, hc, hlt2, hx⟩ := HO.out (by omega)
        obtain ⟨b', off', rfl, hc', hlt2', hx'⟩ := HO'.out (by omega)
        have hk' : k < tt.length := by omega
        have hcell := hx k _ (strVals_get ss k hlt)
        have hcell' := hx' k _ (strVals_get tt k hk')
        rw [← hbr.cell (p := ⟨b, off + k, none⟩) hlt2] at hcell
        rw [← hbr.cell (p := ⟨b', off' + k, none⟩) hlt2'] at hcell'
        clear hx hx' hbr
        have i1 : (0 : Int) ≤ (k : Int) := by omega
        have i2 : (k : Int) < (ss.length : Int) := by omega
        have i3 : (k : Int) < (tt.length : Int) := by omega
        by_cases heq : ss[k] = tt[k]
        · have hb := bytes_beq heq
          have HE := Lib.hid heq
          clear heq
          go_wp2
          go_quiet (fail)
          go_wp2
          refine ⟨⟨k + 1, by omega, by go_num, ?_, below_drewN' HB.out _⟩, by simp [intOf]; omega⟩
          rw [List.take_succ_eq_append_getElem hlt, List.take_succ_eq_append_getElem hk', HT.out, HE.out]
        · have hb := bytes_bne heq
          have HE := Lib.hid (strVals_ne hlt hk' heq)
          clear heq
          go_wp2
          go_quiet (fail)
          go_wp2
          go_ret
          exact ⟨ret_bool (by unfold eqStr; exact (decide_eq_false HE.out).symm), below_drewN' HB.out _⟩
      · obtain rfl : k = ss.length := by omega
        go_wp2
        go_ret
        have h := HT.out
        rw [List.take_length, HL.out, List.take_length] at h
        exact ⟨ret_bool (by unfold eqStr; exact (decide_eq_true h).symm), HB.out⟩
  · have hne : ((ss.length : Int) != (tt.length : Int)) = true := by rw [bne_iff_ne]; omega
    have HE := Lib.hid (fun e : ss = tt => hlen (by rw [e]))
    clear hlen
    go_enter Tryd.func22, Tryd.ntmps22
    go_wp2
    go_ret
    exact ⟨ret_bool (by unfold eqStr; exact (decide_eq_false HE.out).symm), Below.refl _ _⟩
end Go.Proofs.YtlemfajiojnonaaDoor
