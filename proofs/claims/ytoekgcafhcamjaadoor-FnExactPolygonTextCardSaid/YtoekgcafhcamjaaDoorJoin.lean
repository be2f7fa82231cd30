/- spec.Join: the elements with the separator between them. -/
import Derived.Test.YtoekgcafhcamjaaDoorMad
import Derived.Test.YtoekgcafhcamjaaDoorStrTo
import Derived.Test.YtoekgcafhcamjaaDoorJnNum
import Derived.Test.YtoekgcafhcamjaaDoorShr
import Derived.Test.YtoekgcafhcamjaaDoorProg
import Derived.Lib.AppendStr
import Derived.Laws.BytesString
namespace Go.Proofs.YtoekgcafhcamjaaDoor
open Go.RowKit Go.Lib

def u8cells (l : List UInt8) : List Value := l.map fun b => Value.int .u8 b.toNat
theorem strCells_eq (s : ByteArray) : strCells s = u8cells s.data.toList := rfl
theorem u8cells_app (a b : List UInt8) : u8cells (a ++ b) = u8cells a ++ u8cells b := by simp [u8cells]

/-- 'string(out)' of a row that the call made. -/
theorem run_row_string {P : Program} (src dst e : TypeId) (hs : P.underlying src = some (.slice e)) (he : P.underlying e = some (.int .u8)) (hd : P.underlying dst = some .string)
    {w : World} {base : Nat} {v : Value} {l : List UInt8} (h : w.ownsRow base e 1 v l.length (u8cells l)) :
    (convert src dst v).run P w = .ok (.string ⟨l.toArray⟩) w := by
  have fold : ∀ (l : List UInt8) (r : ByteArray), (l.map fun b => ((b.toNat : Nat) : Int)).foldl (fun r n => r.push (UInt8.ofNat n.toNat)) r = ⟨r.data ++ l.toArray⟩ := by
    intro l
    induction l with
    | nil => intro r; simp
    | cons c l ih =>
      intro r
      simp only [List.map_cons, List.foldl_cons]
      rw [ih]
      simp [ByteArray.push]
  rcases h.2 with ⟨rfl, h0⟩ | ⟨g, cap, cur, rfl, hg, hb, hn, hm, hsz, ht⟩
  · have : l = [] := by simpa using h0
    subst this
    rw [run_convert_bytes_string _ src dst e _ _ _ hs he hd]
    rfl
  · rw [run_convert_bytes_string _ src dst e _ _ _ hs he hd]
    rw [run_bytesToString w ⟨g, 0, none⟩ l.length cap (l.map fun b => ((b.toNat : Nat) : Int))]
    · rw [fold]; rw [show ByteArray.empty.data = #[] from rfl, Array.empty_append]
    · have e1 : (l.map fun b => ((b.toNat : Nat) : Int)).map (Value.int .u8) = u8cells l := by simp [u8cells, Function.comp_def]
      rw [e1]
      have := run_loadCells_list (P := P) (w := w) ⟨g, 0, none⟩ (u8cells l) (h.cells rfl)
      simpa [u8cells] using this
theorem info_u8 : (Tryd.prog.info? 5).map (fun i => (i.zero, i.size, i.bytes)) = some (some (.int .u8 0), 1, 1) := by kernel_rfl

theorem first_eq (ss : List ByteArray) (h : 0 < ss.length) : ss.take (0 + 1) = [ss[0]] := by rw [List.take_succ_eq_append_getElem h]; simp

set_option maxRecDepth 100000 in
set_option maxHeartbeats 400000 in
theorem sjoin (ss : List ByteArray) (by_ : ByteArray) (v : Value) (w : World) (hv : Sl w v (strVals ss)) (hl : ss.length ≤ 1048576) (hb : by_.size ≤ 1048576) (hs : sizes ss ≤ 1099511627776) :
    Calls Tryd.prog 12 #[v, .string by_] w fun e w' => e = .returned (.string ⟨(jn by_.data.toList ss).toArray⟩) ∧ Below w.heap.size w w' := by
  obtain ⟨a, c, rfl, hm, hopen⟩ := hv.shape
  rw [strVals_len] at hm hopen ⊢
  unfold maxLen at hm
  obtain ⟨i0, hi, hz0, hz1, hz2⟩ := info_parts info_u8
  have hbl : by_.data.toList.length = by_.size := by rw [Array.length_toList]; rfl
  have HL : ∀ k, k ≤ ss.length → (jn by_.data.toList (ss.take k)).length ≤ 1099511627776 + 1048576 * 1048576 := by
    intro k hk
    have h1 := jn_len by_.data.toList ss k hk
    rw [hbl] at h1
    have h2 : k * by_.size ≤ 1048576 * 1048576 := Nat.mul_le_mul (by omega) hb
    omega
  have HL' := Lib.hid HL
  have HO := Lib.hid hopen
  have HBL := Lib.hid hbl
  have HI := Lib.hid (And.intro hi (And.intro hz0 (And.intro hz1 hz2)))
  clear hopen hv HL hbl hi hz0 hz1 hz2
  go_enter Tryd.func12, Tryd.ntmps12
  go_wp2
  go_loopw [5, 6] (fun o i wr => ∃ k : Nat, k ≤ ss.length ∧ i = .int .i64 k ∧ wr.ownsRow w.heap.size 5 1 o (jn by_.data.toList (ss.take k)).length (u8cells (jn by_.data.toList (ss.take k))) ∧ Below w.heap.size w wr) (fun _ i _ => ss.length - (RowKit.intOf i).toNat)
  case atStart => exact ⟨0, Nat.zero_le _, rfl, owns_empty (Nat.le_refl _), (Below.refl _ _).alloc (Nat.le_refl _) _⟩
  case round =>
    obtain ⟨k, hk, rfl, how, hbr⟩ := hrel
    by_cases hlt : k < ss.length
    · obtain ⟨b, off, rfl, hc, hlt2, hx⟩ := HO.out (by omega)
      have hcell := hx k _ (strVals_get ss k hlt)
      rw [← hbr.cell (p := ⟨b, off + k, none⟩) hlt2] at hcell
      have hbk := HL'.out (k + 1) hlt
      have HW := Lib.hid how
      have HR := Lib.hid hbr
      clear hx how hbr
      by_cases h0 : 0 < k
      · have HS := Lib.hid (jn_step by_.data.toList ss k hlt h0)
        have hk0 : decide ((0 : Int) < (k : Int)) = true := by simpa using h0
        have hl1 := HS.out
        replace hl1 := congrArg List.length hl1
        have hszk : ss[k].data.toList.length = ss[k].size := by rw [Array.length_toList]; rfl
        rw [List.length_append, List.length_append, HBL.out, hszk] at hl1
        have C1 := Lib.hid (show (jn by_.data.toList (ss.take k)).length + by_.size ≤ maxLen by unfold maxLen; omega)
        have C2 := Lib.hid (show (jn by_.data.toList (ss.take k)).length + by_.size ≤ 140737488355328 by omega)
        have C3 := Lib.hid HR.out.size
        have D1 := Lib.hid (show (jn by_.data.toList (ss.take k)).length + by_.size + ss[k].size ≤ maxLen by unfold maxLen; omega)
        have D2 := Lib.hid (show (jn by_.data.toList (ss.take k)).length + by_.size + ss[k].size ≤ 140737488355328 by omega)
        have HL1 := Lib.hid hl1
        clear hl1 hszk hbk
        go_wp2_with (first | (at_builtin; refine wpList_append_own_string _ rfl (.tmp 16) (.tmp 17) 39 9 rfl w.heap.size 5 i0 Tryd.underlying39 Tryd.underlying9 HI.out.1 HI.out.2.1 HI.out.2.2.1 HI.out.2.2.2 _ _ _ rfl HW.out by_ rfl C1.out C2.out C3.out ?_; intro v1 w1 hown1 hgrow1 _; have hb1 := HR.out.grown hgrow1 C3.out (fun q hq => (HW.out.lt q hq).1); have hcell1 := (hb1.cell (p := ⟨b, off + k, none⟩) hlt2).trans ((HR.out.cell (p := ⟨b, off + k, none⟩) hlt2).symm.trans hcell); have HW1 := Lib.hid hown1; have HB1 := Lib.hid hb1; have C4 := Lib.hid hb1.size; clear hown1 hb1 hgrow1) | (at_builtin; refine wpList_append_own_string _ rfl (.tmp 19) (.tmp 23) 39 9 rfl w.heap.size 5 i0 Tryd.underlying39 Tryd.underlying9 HI.out.1 HI.out.2.1 HI.out.2.2.1 HI.out.2.2.2 _ _ _ rfl HW1.out ss[k] rfl D1.out D2.out C4.out ?_; intro v2 w2 hown2 hgrow2 _; have hb2 := HB1.out.grown hgrow2 C4.out (fun q hq => (HW1.out.lt q hq).1); have HW2 := Lib.hid hown2; have HB2 := Lib.hid hb2; clear hown2 hb2 hgrow2))
        go_wp2
        have hw := HW2.out
        rw [strCells_eq, strCells_eq, ← u8cells_app, ← u8cells_app, ← HS.out, ← HL1.out] at hw
        exact ⟨⟨k + 1, by omega, by go_num, hw, HB2.out⟩, by simp [RowKit.intOf]; omega⟩
      · obtain rfl : k = 0 := by omega
        rw [Nat.add_zero] at hcell
        have hf : jn by_.data.toList (ss.take (0 + 1)) = ss[0].data.toList := by rw [first_eq ss hlt, jn_one]
        have hszk : ss[0].data.toList.length = ss[0].size := by rw [Array.length_toList]; rfl
        rw [hf, hszk] at hbk
        have h00 : jn by_.data.toList (ss.take 0) = [] := rfl
        rw [h00] at HW
        have C1 := Lib.hid (show ([] : List UInt8).length + ss[0].size ≤ maxLen by unfold maxLen; simp only [List.length_nil]; omega)
        have C2 := Lib.hid (show ([] : List UInt8).length + ss[0].size ≤ 140737488355328 by simp only [List.length_nil]; omega)
        have C3 := Lib.hid HR.out.size
        have HF := Lib.hid (And.intro hf hszk)
        clear hf hszk h00 hbk
        go_wp2_with (at_builtin; (refine wpList_append_own_string _ rfl (.tmp 19) (.tmp 23) 39 9 rfl w.heap.size 5 i0 Tryd.underlying39 Tryd.underlying9 HI.out.1 HI.out.2.1 HI.out.2.2.1 HI.out.2.2.2 _ _ _ rfl HW.out ss[0] rfl C1.out C2.out C3.out ?_); (intro v1 w1 hown1 hgrow1 _))
        have hb1 := HR.out.grown hgrow1 C3.out (fun q hq => (HW.out.lt q hq).1)
        have HW1 := Lib.hid hown1
        have HB1 := Lib.hid hb1
        clear hown1 hb1 hgrow1
        go_wp2
        have hw := HW1.out
        rw [strCells_eq, ← u8cells_app, List.nil_append, List.length_nil, Nat.zero_add, ← HF.out.2, ← HF.out.1] at hw
        exact ⟨⟨1, by omega, by go_num, hw, HB1.out⟩, by simp [RowKit.intOf]; omega⟩
    · obtain rfl : k = ss.length := by omega
      have hcv := run_row_string (P := Tryd.prog) 39 9 5 Tryd.underlying39 Tryd.underlying5 Tryd.underlying9 how
      rw [List.take_length] at hcv
      have HR := Lib.hid hbr
      clear how hbr
      go_wp2
      go_ret
      exact ⟨rfl, HR.out⟩

end Go.Proofs.YtoekgcafhcamjaaDoor
