/- The laws' helpers on slices of strings: their bulk, a copy, equality. -/
import Derived.Test.YtlemfajiojnonaaSl
import Derived.Test.YtlemfajiojnonaaProg
import Derived.WalkLawsBesides
import Derived.WalkSpells
import Derived.BigQuiet
import Derived.Deep.QuietTactic
namespace Go.Proofs.Ytlemfajiojnonaa
open Go.RowKit Go.Lib

def sizes (ss : List ByteArray) : Nat := (ss.map (·.size)).sum
theorem sizes_snoc (ss : List ByteArray) (k : Nat) (h : k < ss.length) : sizes (ss.take (k + 1)) = sizes (ss.take k) + ss[k].size := by
  unfold sizes
  rw [List.take_succ_eq_append_getElem h, List.map_append, List.sum_append]; simp
theorem sizes_take_le (ss : List ByteArray) (k : Nat) : sizes (ss.take k) ≤ sizes ss := by
  unfold sizes
  conv => rhs; rw [← List.take_append_drop k ss, List.map_append, List.sum_append]
  omega
/-- What szStringS answers. -/
def szStr (ss : List ByteArray) (left : Int) : Int := if left - ss.length - sizes ss < 0 then -1 else left - ss.length - sizes ss

theorem int_eq {k : IntKind} {a b : Int} (h : a = b) : Value.int k a = Value.int k b := by rw [h]
theorem ret_int {k : IntKind} {a b : Int} (h : a = b) : Ending.returned (.int k a) = .returned (.int k b) := by rw [h]

set_option maxRecDepth 100000 in
set_option maxHeartbeats 400000 in
theorem sz_str (ss : List ByteArray) (v : Value) (left : Int) (w : World) (hv : Sl w v (strVals ss)) (hs : ∀ s ∈ ss, s.size ≤ maxLen) (h0 : 0 ≤ left) (h1 : left ≤ 1048576) :
    Calls Try.prog 4 #[v, .int .i64 left] w fun e w' => e = .returned (.int .i64 (szStr ss left)) ∧ w = w' := by
  obtain ⟨a, c, rfl, hm, hopen⟩ := hv.shape
  rw [strVals_len] at hm hopen ⊢
  unfold maxLen at hm hs
  have HO := Lib.hid hopen
  have HS := Lib.hid hs
  clear hopen hs hv
  by_cases hneg : left - ss.length < 0
  · go_enter Try.func4, Try.ntmps4
    go_wp2
    go_ret
    exact ⟨ret_int (by unfold szStr; rw [if_pos (by omega)]), rfl⟩
  · have hd : decide (left - (ss.length : Int) < 0) = false := by simp; omega
    go_enter Try.func4, Try.ntmps4
    go_wp2
    go_loop [1, 5] (fun l i => ∃ k : Nat, k ≤ ss.length ∧ i = .int .i64 k ∧ l = .int .i64 (left - ss.length - sizes (ss.take k)) ∧ 0 ≤ left - ss.length - sizes (ss.take k)) (fun _ i => ss.length - (intOf i).toNat)
    case atStart => exact ⟨0, Nat.zero_le _, rfl, by simp [sizes], by simp [sizes]; omega⟩
    case round =>
      obtain ⟨k, hk, rfl, rfl, hp⟩ := hrel
      by_cases hlt : k < ss.length
      · obtain ⟨b, off, rfl, hc, hlt2, hx⟩ := HO.out (by omega)
        have hcell := hx k _ (strVals_get ss k hlt)
        have hsz := HS.out _ (List.getElem_mem hlt)
        have HN := Lib.hid (sizes_snoc ss k hlt)
        clear hx
        by_cases hn : left - ss.length - sizes (ss.take k) - (ss[k].size : Int) < 0
        · go_wp2
          go_ret
          exact ⟨ret_int (by
            have h2 := sizes_take_le ss (k + 1)
            rw [HN.out] at h2
            unfold szStr; rw [if_pos (by omega)]), rfl⟩
        · have hd2 : decide (left - (ss.length : Int) - (sizes (ss.take k) : Int) - (ss[k].size : Int) < 0) = false := by simp; omega
          go_wp2
          go_round
          case rel => exact ⟨k + 1, by omega, by go_num, by rw [HN.out]; exact int_eq (by omega), by rw [HN.out]; omega⟩
          case measure => simp [intOf]; omega
      · obtain rfl : k = ss.length := by omega
        rw [List.take_length] at hp
        go_wp2
        go_ret
        exact ⟨ret_int (by unfold szStr; rw [if_neg (by omega)]), rfl⟩

/-- A row that is filled from the left. -/
def filled (xs : List Value) (z : Value) (k : Nat) : List Value := xs.take k ++ List.replicate (xs.length - k) z
theorem filled_zero (xs : List Value) (z : Value) : filled xs z 0 = List.replicate xs.length z := by simp [filled]
theorem filled_all (xs : List Value) (z : Value) : filled xs z xs.length = xs := by simp [filled]
theorem filled_len (xs : List Value) (z : Value) (k : Nat) (h : k ≤ xs.length) : (filled xs z k).length = xs.length := by simp [filled]; omega
theorem filled_get (xs : List Value) (z : Value) (k : Nat) (h : k < xs.length) : (filled xs z k)[k]? = some z := by
  unfold filled
  rw [List.getElem?_append_right (by rw [List.length_take]; omega), List.length_take, Nat.min_eq_left (by omega), Nat.sub_self, List.getElem?_replicate, if_pos (by omega)]
theorem filled_step (xs : List Value) (z x : Value) (k : Nat) (hx : xs[k]? = some x) : (filled xs z k).set k x = filled xs z (k + 1) := by
  have h : k < xs.length := by
    by_cases hh : k < xs.length
    · exact hh
    · rw [List.getElem?_eq_none (by omega)] at hx; cases hx
  unfold filled
  rw [List.set_append_right _ _ (by rw [List.length_take]; omega), List.length_take, Nat.min_eq_left (by omega), Nat.sub_self]
  rw [show xs.length - k = (xs.length - (k + 1)) + 1 from by omega, List.replicate_succ, List.set_cons_zero, List.take_add_one, hx]
  simp

/-- WHAT toStringS MAKES: a copy. -/
theorem info_str : (Try.prog.info? 9).map (fun i => (i.zero, i.size, i.bytes)) = some (some (.string ⟨#[]⟩), 1, 16) := by kernel_rfl

set_option maxRecDepth 100000 in
set_option maxHeartbeats 400000 in
theorem to_str (ss : List ByteArray) (v : Value) (w : World) (hv : Sl w v (strVals ss)) (hl : ss.length ≤ 1048576) :
    Calls Try.prog 6 #[v] w fun e w' => (∃ v', e = .returned v' ∧ w'.ownsRow w.heap.size 9 1 v' ss.length (strVals ss)) ∧ Below w.heap.size w w' := by
  obtain ⟨a, c, rfl, hm, hopen⟩ := hv.shape
  rw [strVals_len] at hm hopen ⊢
  unfold maxLen at hm
  obtain ⟨i0, hi, hz0, hz1, hz2⟩ := info_parts info_str
  have HO := Lib.hid hopen
  clear hopen hv
  go_enter Try.func6, Try.ntmps6
  go_wp2_with (at_make; refine wpList_make_full _ rfl _ _ 22 rfl w.heap.size 9 i0 _ 1 Try.underlying22 hi hz0 hz1 .i64 .i64 _ _ ss.length rfl rfl rfl rfl (by rw [hz2]; omega) (by unfold maxLen; omega) (Nat.le_refl _) ?_; intro w1 hown hgrow)
  have hbel : Below w.heap.size w w1 := (Below.refl _ _).grown hgrow (Nat.le_refl _) (fun _ h => by cases h)
  rw [show (Value.string ⟨#[]⟩).cells = #[Value.string ⟨#[]⟩] from rfl, toList_madeCells_one, Nat.mul_one, show ss.length = (strVals ss).length from (strVals_len ss).symm, ← filled_zero (strVals ss)] at hown
  rw [strVals_len] at hown
  have HW := Lib.hid hown
  have HB := Lib.hid hbel
  have hsz1 : w.heap.size < w1.heap.size := (hown.lt _ rfl).2
  clear hown hgrow hbel hi hz0 hz1 hz2
  go_loopw [4] (fun i wr => ∃ k : Nat, k ≤ ss.length ∧ i = .int .i64 k ∧ wr.ownsRow w.heap.size 9 1 (.slice (some ⟨w.heap.size, 0, none⟩) ss.length ss.length) ss.length (filled (strVals ss) (.string ⟨#[]⟩) k) ∧ Below w.heap.size w wr) (fun i _ => ss.length - (intOf i).toNat)
  case atStart => exact ⟨0, Nat.zero_le _, rfl, HW.out, HB.out⟩
  case round =>
    obtain ⟨k, hk, rfl, how, hbr⟩ := hrel
    by_cases hlt : k < ss.length
    · obtain ⟨b, off, rfl, hc, hlt2, hx⟩ := HO.out (by omega)
      have hcell := hx k _ (strVals_get ss k hlt)
      rw [← hbr.cell (p := ⟨b, off + k, none⟩) hlt2] at hcell
      have hmine := how.cellAt k (by omega)
      rw [filled_get _ _ _ (by rw [strVals_len]; exact hlt)] at hmine
      have hfree := how.frozenAt k
      have HS := Lib.hid (how.stored k (.string ss[k]))
      have HR := Lib.hid hbr
      clear hx how hbr
      go_wp2
      have h2 := HS.out.1
      rw [filled_step _ _ _ _ (strVals_get ss k hlt)] at h2
      exact ⟨⟨k + 1, by omega, by go_num, h2, HR.out.setCell (Nat.le_refl _) _⟩, by simp [intOf]; omega⟩
    · obtain rfl : k = ss.length := by omega
      have HA := Lib.hid how
      have HR := Lib.hid hbr
      clear how hbr
      go_wp2
      go_ret
      have h := HA.out
      have hfa := filled_all (strVals ss) (.string ⟨#[]⟩)
      rw [strVals_len] at hfa
      rw [hfa] at h
      exact ⟨⟨_, rfl, h⟩, HR.out⟩

theorem strVals_ne {ss tt : List ByteArray} {k : Nat} (hk : k < ss.length) (hk' : k < tt.length) (h : ss[k] ≠ tt[k]) : ss ≠ tt := by
  intro e; subst e; exact h rfl
/-- Equality of two lists of strings, as a Bool that the walk leaves closed. -/
theorem ret_bool {a b : Bool} (h : a = b) : Ending.returned (.bool a) = .returned (.bool b) := by rw [h]
theorem below_drewN' {B : Nat} {a w : World} (h : Below B a w) (n : Nat) : Below B a (w.drewN n) := h.trans ⟨rfl, rfl, rfl, Nat.le_refl _, fun _ _ => rfl⟩
def eqStr (ss tt : List ByteArray) : Bool := decide (ss = tt)
theorem bytes_bne {a b : ByteArray} (h : a ≠ b) : (!a.toList == b.toList) = true := by
  rw [ByteArray.toList_eq, ByteArray.toList_eq]
  simp only [Bool.not_eq_true', beq_eq_false_iff_ne]
  intro e; exact h (ByteArray.ext (Array.toList_inj.1 e))
theorem bytes_beq {a b : ByteArray} (h : a = b) : (!a.toList == b.toList) = false := by subst h; simp

set_option maxRecDepth 100000 in
set_option maxHeartbeats 400000 in
theorem eq_str (ss tt : List ByteArray) (v u : Value) (w : World) (hv : Sl w v (strVals ss)) (hu : Sl w u (strVals tt)) :
    Calls Try.prog 8 #[v, u] w fun e w' => e = .returned (.bool (eqStr ss tt)) ∧ Below w.heap.size w w' := by
  obtain ⟨a, c, rfl, hm, hopen⟩ := hv.shape
  obtain ⟨a', c', rfl, hm', hopen'⟩ := hu.shape
  rw [strVals_len] at hm hopen hm' hopen'
  rw [strVals_len, strVals_len]
  unfold maxLen at hm hm'
  have HO := Lib.hid hopen
  have HO' := Lib.hid hopen'
  clear hopen hopen' hv hu
  by_cases hlen : ss.length = tt.length
  · have hne : ((ss.length : Int) != (tt.length : Int)) = false := by simp [hlen]
    have HL := Lib.hid hlen
    have hl1 : ss.length ≤ tt.length := by omega
    have hl2 : tt.length ≤ ss.length := by omega
    clear hlen
    go_enter Try.func8, Try.ntmps8
    go_wp2
    go_loopw [5] (fun i wr => ∃ k : Nat, k ≤ ss.length ∧ i = .int .i64 k ∧ ss.take k = tt.take k ∧ Below w.heap.size w wr) (fun i _ => ss.length - (intOf i).toNat)
    case atStart => exact ⟨0, Nat.zero_le _, rfl, rfl, Below.refl _ _⟩
    case round =>
      obtain ⟨k, hk, rfl, ht, hbr⟩ := hrel
      have HT := Lib.hid ht
      have HB := Lib.hid hbr
      clear ht
      by_cases hlt : k < ss.length
      · obtain ⟨b, off, rfl, hc, hlt2, hx⟩ := HO.out (by omega)
        obtain ⟨b', off', rfl, hc', hlt2', hx'⟩ := HO'.out (by omega)
        have hk' : k < tt.length := by omega
        have hcell := hx k _ (strVals_get ss k hlt)
        have hcell' := hx' k _ (strVals_get tt k hk')
        rw [← hbr.cell (p := ⟨b, off + k, none⟩) hlt2] at hcell
        rw [← hbr.cell (p := ⟨b', off' + k, none⟩) hlt2'] at hcell'
        clear hx hx' hbr
        have i1 : (0 : Int) ≤ (k : Int) := by omega
        have i2 : (k : Int) < (ss.length : Int) := by omega
        have i3 : (k : Int) < (tt.length : Int) := by omega
        by_cases heq : ss[k] = tt[k]
        · have hb := bytes_beq heq
          have HE := Lib.hid heq
          clear heq
          go_wp2
          go_quiet (fail)
          go_wp2
          refine ⟨⟨k + 1, by omega, by go_num, ?_, below_drewN' HB.out _⟩, by simp [intOf]; omega⟩
          rw [List.take_succ_eq_append_getElem hlt, List.take_succ_eq_append_getElem hk', HT.out, HE.out]
        · have hb := bytes_bne heq
          have HE := Lib.hid (strVals_ne hlt hk' heq)
          clear heq
          go_wp2
          go_quiet (fail)
          go_wp2
          go_ret
          exact ⟨ret_bool (by unfold eqStr; exact (decide_eq_false HE.out).symm), below_drewN' HB.out _⟩
      · obtain rfl : k = ss.length := by omega
        go_wp2
        go_ret
        have h := HT.out
        rw [List.take_length, HL.out, List.take_length] at h
        exact ⟨ret_bool (by unfold eqStr; exact (decide_eq_true h).symm), HB.out⟩
  · have hne : ((ss.length : Int) != (tt.length : Int)) = true := by rw [bne_iff_ne]; omega
    have HE := Lib.hid (fun e : ss = tt => hlen (by rw [e]))
    clear hlen
    go_enter Try.func8, Try.ntmps8
    go_wp2
    go_ret
    exact ⟨ret_bool (by unfold eqStr; exact (decide_eq_false HE.out).symm), Below.refl _ _⟩
end Go.Proofs.Ytlemfajiojnonaa
