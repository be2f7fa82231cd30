/- The laws' marks: markText, markStringS, heldStringS. -/
import Derived.Test.YtlemfajiojnonaaDoorFi
import Derived.Test.YtlemfajiojnonaaDoorSl
import Derived.Deep.RegionWith
namespace Go.Proofs.YtlemfajiojnonaaDoor
open Go.RowKit Go.Lib

def mk (k : Nat) : List UInt8 := 109 :: decDigits k
theorem mk_step {n u : Nat} {l : List UInt8} (h0 : u ≠ 0) (h : digs u ++ l = digs n) : digs (u / 10) ++ ((48 + UInt8.ofNat (u % 10)) :: l) = digs n := by
  rw [← h, ← digs_step h0, List.append_assoc, List.singleton_append]
  congr 2
  rw [UInt8.ofNat_add]; rfl
theorem mk_len {n : Nat} (hb : n ≤ 9223372036854775807) {u : Nat} {l : List UInt8} (h : digs u ++ l = digs n) : l.length ≤ 20 := by
  have := congrArg List.length h
  rw [List.length_append] at this
  have := digs_len (u := n) (by omega)
  omega

set_option maxRecDepth 100000 in
set_option maxHeartbeats 400000 in
theorem mark_text (n : Nat) (hn : n ≠ 0) (hb : n ≤ 9223372036854775807) (w : World) :
    Calls Tryd.prog 37 #[.int .i64 n] w fun e w' => e = .returned (.string ⟨(mk n).toArray⟩) ∧ Below w.heap.size w w' := by
  have hcv := run_one_byte (P := Tryd.prog) 22 9 5 5 Tryd.underlying22 Tryd.underlying5 Tryd.underlying9
  have h0 : 0 < n := by omega
  go_enter Tryd.func37, Tryd.ntmps37
  go_wp2
  go_loopw [0, 3] (fun m o wr => ∃ (u : Nat) (l : List UInt8), u ≤ n ∧ m = .int .i64 u ∧ o = .string ⟨l.toArray⟩ ∧ digs u ++ l = digs n ∧ Below w.heap.size w wr) (fun m _ _ => (RowKit.intOf m).toNat)
  case atStart => exact ⟨n, [], Nat.le_refl _, rfl, rfl, by simp, Below.refl _ _⟩
  case round =>
    obtain ⟨u, l, hu, rfl, rfl, hd, hbl⟩ := hrel
    have hl := mk_len hb hd
    have Hd := Lib.hid hd
    clear hd
    by_cases hz : u = 0
    · subst hz
      go_wp2
      go_ret
      have e : l = decDigits n := by have := Hd.out; rw [digs_zero, List.nil_append, digs_pos hn] at this; exact this
      exact ⟨by rw [e, ByteArray.mk_append_mk]; simp [mk], hbl⟩
    · have hpos : 0 < u := by omega
      go_wp2
      have hst := mk_step (l := l) hz Hd.out
      exact ⟨⟨u / 10, _, by omega, by go_num, congrArg Value.string (str_cons _ _), hst, hbl.alloc hbl.size _⟩, by simp [RowKit.intOf]; omega⟩

/-- Marks from k on. -/
def marks (k n : Nat) : List ByteArray := (List.range n).map fun i => ⟨(mk (k + i)).toArray⟩
theorem marks_len (k n : Nat) : (marks k n).length = n := by simp [marks]
theorem marks_get (k n i : Nat) (h : i < n) : (marks k n)[i]'(by rw [marks_len]; exact h) = ⟨(mk (k + i)).toArray⟩ := by simp [marks]
theorem marks_step (k j : Nat) (ss : List ByteArray) (h : j < ss.length) :
    (strVals (marks k j ++ ss.drop j)).set j (.string ⟨(mk (k + j)).toArray⟩) = strVals (marks k (j + 1) ++ ss.drop (j + 1)) := by
  have hl : (strVals (marks k j)).length = j := by rw [strVals_len, marks_len]
  have e : strVals (marks k j ++ ss.drop j) = strVals (marks k j) ++ strVals (ss.drop j) := by simp [strVals]
  rw [e, List.set_append_right _ _ (by omega), hl, Nat.sub_self, List.drop_eq_getElem_cons h]
  have e2 : ∀ u, (strVals (ss[j] :: ss.drop (j + 1))).set 0 u = u :: strVals (ss.drop (j + 1)) := fun _ => rfl
  rw [e2]
  simp only [strVals, marks, List.range_succ, List.map_append, List.map_cons, List.map_nil, List.append_assoc, List.cons_append, List.nil_append]

set_option maxRecDepth 100000 in
set_option maxHeartbeats 400000 in
theorem mark_str (ss : List ByteArray) (base g cap k : Nat) (w : World) (hk : 1 ≤ k) (hb : k + ss.length ≤ 4611686018427387904) (how : w.ownsRow base 9 1 (.slice (some ⟨g, 0, none⟩) ss.length cap) ss.length (strVals ss)) :
    Calls Tryd.prog 23 #[.slice (some ⟨g, 0, none⟩) ss.length cap, .int .i64 k] w fun e w' => e = .returned (.int .i64 (k + ss.length : Nat)) ∧ w'.ownsRow base 9 1 (.slice (some ⟨g, 0, none⟩) ss.length cap) ss.length (strVals (marks k ss.length)) ∧ Below base w w' := by
  have hgb := (how.lt g rfl).1
  have hgl := (how.lt g rfl).2
  have HW := Lib.hid how
  clear how
  go_enter Tryd.func23, Tryd.ntmps23
  go_wp2
  go_loopw [1, 5] (fun q i wr => ∃ j : Nat, j ≤ ss.length ∧ i = .int .i64 j ∧ q = .int .i64 (k + j : Nat) ∧ wr.ownsRow base 9 1 (.slice (some ⟨g, 0, none⟩) ss.length cap) ss.length (strVals (marks k j ++ ss.drop j)) ∧ Below base w wr) (fun _ i _ => ss.length - (RowKit.intOf i).toNat)
  case atStart => exact ⟨0, Nat.zero_le _, rfl, by simp, by simpa [marks] using HW.out, Below.refl _ _⟩
  case round =>
    obtain ⟨j, hj, rfl, rfl, hor, hbr⟩ := hrel
    have HO := Lib.hid hor
    have HB := Lib.hid hbr
    clear hor hbr
    by_cases hlt : j < ss.length
    · go_wp2_with fail
      refine (mark_text (k + j) (by omega) (by omega) _).mono ?_
      rintro e w1 ⟨rfl, hb1⟩
      have ho1 := owns_below HO.out hb1
      have hmine := ho1.cellAt j (by omega)
      rw [strVals_get _ _ (by rw [List.length_append, marks_len, List.length_drop]; omega)] at hmine
      have hfree := ho1.frozenAt j
      have HS := Lib.hid (ho1.stored j (.string ⟨(mk (k + j)).toArray⟩))
      have HB1 := Lib.hid (HB.out.trans (hb1.mono (by have := (HO.out.lt g rfl).2; omega)))
      clear ho1 hb1
      go_wp2
      have h2 := HS.out.1
      rw [marks_step k j ss hlt] at h2
      exact ⟨⟨j + 1, by omega, by go_num, by go_num, h2, HB1.out.setCell hgb _⟩, by simp [RowKit.intOf]; omega⟩
    · obtain rfl : j = ss.length := by omega
      go_wp2
      go_ret
      have h2 := HO.out
      rw [List.drop_length, List.append_nil] at h2
      exact ⟨rfl, h2, HB.out⟩
end Go.Proofs.YtlemfajiojnonaaDoor
