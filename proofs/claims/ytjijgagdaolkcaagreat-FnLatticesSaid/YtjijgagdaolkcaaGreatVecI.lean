/- The program's vectors: arrays of three numbers, copies, the common divisor. -/
import Derived.Test.YtjijgagdaolkcaaGreatMah
import Derived.Laws.CopyOwn
import Derived.LoopN
namespace Go.Proofs.YtjijgagdaolkcaaGreat
open Go.RowKit Go.Lib

set_option maxRecDepth 100000 in
theorem i_size (x : Int) (w : World) : Calls Tryz.prog 71 #[.int .i64 x] w fun e w' => e = .returned (.bool (inR x (-1000) 1000)) ∧ w = w' := by
  by_cases h1 : -1000 ≤ x
  · by_cases h2 : x ≤ 1000
    · have h := Lib.hid (inR_mk h1 h2)
      go_enter Tryz.func71, Tryz.ntmps71
      go_wp2
      go_ret
      exact ⟨ret_bool h.out.symm, rfl⟩
    · have h := Lib.hid (inR_f (x := x) (lo := -1000) (hi := 1000) (fun h => h2 h.2))
      go_enter Tryz.func71, Tryz.ntmps71
      go_wp2
      go_ret
      exact ⟨ret_bool h.out.symm, rfl⟩
  · have h := Lib.hid (inR_f (x := x) (lo := -1000) (hi := 1000) (fun h => h1 h.1))
    go_enter Tryz.func71, Tryz.ntmps71
    go_wp2
    go_ret
    exact ⟨ret_bool h.out.symm, rfl⟩

set_option maxRecDepth 100000 in
set_option maxHeartbeats 400000 in
theorem i_isv (v : List Int) (a : Value) (w : World) (hv : Sl w a (intVals v)) :
    Calls Tryz.prog 32 #[a] w (Quiet w (.bool (isV v))) := by
  obtain ⟨a, c, rfl, hm, hopen⟩ := hv.shape
  rw [intVals_len] at hm hopen ⊢
  unfold maxLen at hm
  have HO := Lib.hid hopen
  clear hopen hv
  by_cases hl : 1 ≤ v.length ∧ v.length ≤ 3
  · have HE := Lib.hid (isV_mk hl.1 hl.2)
    have l1 := hl.1
    have l2 := hl.2
    clear hl
    go_enter Tryz.func32, Tryz.ntmps32
    go_wp2
    go_loopw [15] (fun i wr => ∃ k : Nat, k ≤ v.length ∧ i = .int .i64 k ∧ small (v.take k) 1000 = true ∧ Below w.heap.size w wr) (fun i _ => v.length - (RowKit.intOf i).toNat)
    case atStart => exact ⟨0, Nat.zero_le _, rfl, rfl, Below.refl _ _⟩
    case round =>
      obtain ⟨k, hk, rfl, ht, hbr⟩ := hrel
      have HB := Lib.hid hbr
      have HT := Lib.hid ht
      clear ht
      by_cases hlt : k < v.length
      · obtain ⟨b, off, rfl, hc, hlt2, hx⟩ := HO.out (by omega)
        have hcell := hx k _ (intVals_get v k hlt)
        rw [← hbr.cell (p := ⟨b, off + k, none⟩) hlt2] at hcell
        clear hx hbr
        by_cases hin : inR v[k] (-1000) 1000 = true
        · have HI := Lib.hid hin
          clear hin
          go_wp2_with fail
          refine (i_size _ _).mono ?_
          rintro e w1 ⟨rfl, rfl⟩
          rw [HI.out]
          go_wp2_with fail
          exact ⟨⟨k + 1, by omega, by go_num, small_take hlt HT.out HI.out, HB.out⟩, by simp [RowKit.intOf]; omega⟩
        · have HI := Lib.hid (Bool.not_eq_true _ ▸ hin)
          clear hin
          go_wp2_with fail
          refine (i_size _ _).mono ?_
          rintro e w1 ⟨rfl, rfl⟩
          rw [HI.out]
          go_wp2_with fail
          go_ret
          exact ⟨ret_bool (by rw [HE.out]; exact (small_not hlt HI.out).symm), HB.out⟩
      · obtain rfl : k = v.length := by omega
        clear hbr
        go_wp2
        go_ret
        exact ⟨ret_bool (by rw [HE.out, ← HT.out, List.take_length]), HB.out⟩
  · have HE := Lib.hid (isV_len hl)
    by_cases l1 : v.length < 1
    · clear hl
      go_enter Tryz.func32, Tryz.ntmps32
      go_wp2
      go_ret
      exact ⟨ret_bool HE.out.symm, Below.refl _ _⟩
    · have l2 : 3 < v.length := by omega
      clear hl
      go_enter Tryz.func32, Tryz.ntmps32
      go_wp2
      go_ret
      exact ⟨ret_bool HE.out.symm, Below.refl _ _⟩

def alikeB (u v : List Int) : Bool := isV u && (isV v && decide (u.length = v.length))
theorem alikeB_t {u v : List Int} (h : alikeB u v = true) : isV u = true ∧ isV v = true ∧ u.length = v.length := by
  unfold alikeB at h
  rw [Bool.and_eq_true, Bool.and_eq_true, decide_eq_true_eq] at h
  exact h
theorem alikeB_f {u v : List Int} (h : ¬ alikeB u v = true) : ¬ (isV u = true ∧ isV v = true ∧ u.length = v.length) := by
  intro hh
  apply h
  unfold alikeB
  rw [hh.1, hh.2.1, decide_eq_true hh.2.2]; rfl

set_option maxRecDepth 100000 in
set_option maxHeartbeats 400000 in
/-- slices.Clone of what is not nil. -/
theorem i_clone (v : List Int) (a : Option Addr) (n c : Nat) (w : World) (hn : 0 < v.length) (hm : v.length ≤ 1048576) (hv : Sl w (.slice a n c) (intVals v)) :
    Calls Tryz.prog 67 #[.slice a n c] w (Made w v) := by
  obtain ⟨a', c', e, _, hopen⟩ := hv.shape
  simp only [Value.slice.injEq] at e
  obtain ⟨rfl, rfl, rfl⟩ := e
  rw [intVals_len] at hopen ⊢
  obtain ⟨b, off, rfl, hc, hlt, hx⟩ := hopen hn
  obtain ⟨i0, hi, hz0, hz1, hz2⟩ := info_parts info_int'
  have q22 : ∀ (w : World) (a : Option Addr) (n c n' c' : Nat), (binOp .eql 27 (.slice a n c) (.slice none n' c')).run Tryz.prog w = .ok (.bool a.isNone) w := fun w a n c n' c' => Lib.run_eql_slice_nil w _ _ a n c n' c' Tryz.underlying27
  have HX := Lib.hid hx
  clear hx hv
  have H1 := Lib.hid (intVals_len v)
  go_enter Tryz.func67, Tryz.ntmps67
  go_wp2_with (at_builtin; refine wpList_append_own _ rfl _ _ 27 rfl w.heap.size 3 i0 (.int .i64 0) 1 8 Tryz.underlying27 hi hz0 hz1 hz2 rfl (by decide) _ _ _ rfl (owns_none (Nat.le_refl _)) ⟨b, off, none⟩ v.length c (intVals v) rfl ?qc1 ?qc2 ?qc3 ?qc4 ?qc5 ?qc6 ?_)
  case qc1 => rw [H1.out, Nat.mul_one]
  case qc2 =>
    intro j u hj
    have h := HX.out j u hj
    have h0 : (⟨b, off, none⟩ : Addr).add j = ⟨b, off + j, none⟩ := by unfold Addr.add; split <;> simp_all
    rw [h0]
    exact Lib.cell?_alloc_some _ h
  case qc3 => intro u hu; obtain ⟨x, _, rfl⟩ := List.mem_map.1 hu; rfl
  case qc4 => unfold maxLen; omega
  case qc5 => omega
  case qc6 => simp
  intro v' w1 hown hgrow hnil
  have HW := Lib.hid hown
  have HB := Lib.hid (((Below.refl w.heap.size w).alloc (Nat.le_refl _) _).grown hgrow (by simp) (by intro k hk; simp [Value.ownBlock] at hk; omega))
  clear hown hgrow hnil
  go_wp2
  go_ret
  refine ⟨⟨v', rfl, OwnV.of_owns (n := v.length) ?_⟩, HB.out⟩
  exact HW.out

/-- Three places, those beyond the list's length 0. -/
theorem heap_alloc_new' (w : World) (o : Obj) {n : Nat} (h : w.heap.size = n) : (w.alloc o).heap[n]? = some o := by subst h; exact heap_alloc_new w o
theorem pad3 (v : List Int) (h1 : 1 ≤ v.length) (h2 : v.length ≤ 3) : ∃ x y z : Int, splice [Value.int .i64 0, .int .i64 0, .int .i64 0] 0 (intVals v) = [.int .i64 x, .int .i64 y, .int .i64 z] ∧ v = [x, y, z].take v.length ∧ (v.length < 3 → z = 0) ∧ (v.length < 2 → y = 0) ∧ ∀ M : Int, 0 ≤ M → Bd v M → -M ≤ x ∧ x ≤ M ∧ -M ≤ y ∧ y ≤ M ∧ -M ≤ z ∧ z ≤ M := by
  match v, h1, h2 with
  | [x], _, _ => exact ⟨x, 0, 0, rfl, rfl, by simp, by simp, fun M hM hb => by have h0 := hb 0 (by simp); simp only [List.getElem_cons_zero] at h0; omega⟩
  | [x, y], _, _ => exact ⟨x, y, 0, rfl, rfl, by simp, by simp, fun M hM hb => by have h0 := hb 0 (by simp); have h1 := hb 1 (by simp); simp only [List.getElem_cons_zero, List.getElem_cons_succ] at h0 h1; omega⟩
  | [x, y, z], _, _ => exact ⟨x, y, z, rfl, rfl, by simp, by simp, fun M hM hb => by have h0 := hb 0 (by simp); have h1 := hb 1 (by simp); have h2 := hb 2 (by simp); simp only [List.getElem_cons_zero, List.getElem_cons_succ] at h0 h1 h2; omega⟩

def Arr (w : World) (x y z : Int) (e : Ending) (w' : World) : Prop := e = .returned (.agg #[.int .i64 x, .int .i64 y, .int .i64 z]) ∧ Below w.heap.size w w'

set_option maxRecDepth 100000 in
set_option maxHeartbeats 400000 in
theorem i_num (v : List Int) (x y z : Int) (hs : splice [Value.int .i64 0, .int .i64 0, .int .i64 0] 0 (intVals v) = [.int .i64 x, .int .i64 y, .int .i64 z]) (h1 : 1 ≤ v.length) (h2 : v.length ≤ 3) (a : Value) (w : World) (hv : Sl w a (intVals v)) :
    Calls Tryz.prog 35 #[a] w (Arr w x y z) := by
  obtain ⟨a, c, rfl, hm, hopen⟩ := hv.shape
  rw [intVals_len] at hm hopen ⊢
  obtain ⟨b, off, rfl, hc, hlt, hx⟩ := hopen (by omega)
  have hsz : (Tryz.prog.info? 3).map (·.size) = some 1 := by kernel_rfl
  have HX := Lib.hid hx
  have HS := Lib.hid hs
  have H1 := Lib.hid (intVals_len v)
  clear hx hv hs hopen
  go_enter Tryz.func35, Tryz.ntmps35
  go_wp2_with (refine wpList_copy_splice rfl (.tmp 4) (.tmp 5) 27 27 rfl 3 Tryz.underlying27 hsz (some ⟨w.heap.size + 1, 0, none⟩) (some ⟨b, off, none⟩) 3 3 v.length c rfl rfl (w.heap.size + 1) 0 [.int .i64 0, .int .i64 0, .int .i64 0] 43 ?hg (intVals v) ?hn ?hpos ?hfit ?h1 (w.heap.size + 1) ((w.alloc (.cells #[.int .i64 0, .int .i64 0, .int .i64 0] 43)).alloc (.cells #[.int .i64 0, .int .i64 0, .int .i64 0] 43)) ?hb ?hBg ?_)
  case hg => exact heap_alloc_new' _ _ (by simp)
  case hn => rw [H1.out]; exact (Nat.min_eq_left h2).symm
  case hpos =>
    intro _
    exact fun j u hj => HX.out j u hj
  case hfit => rw [H1.out]; simpa using h2
  case h1 => intro u hu; obtain ⟨x, _, rfl⟩ := List.mem_map.1 hu; rfl
  case hb => exact Below.refl _ _
  case hBg => exact Nat.le_refl _
  intro w1 hh hb1
  have hh := hh.out
  rw [HS.out] at hh
  have k0 : w1.cell? ⟨w.heap.size + 1, 0, none⟩ = some (.int .i64 x) := by rw [cell_of_row _ _ _ _ _ _ hh]; rfl
  have k1 : w1.cell? ⟨w.heap.size + 1, 1, none⟩ = some (.int .i64 y) := by rw [cell_of_row _ _ _ _ _ _ hh]; rfl
  have k2 : w1.cell? ⟨w.heap.size + 1, 2, none⟩ = some (.int .i64 z) := by rw [cell_of_row _ _ _ _ _ _ hh]; rfl
  have hr : w1.heap[w.heap.size]? = some (.cells #[.int .i64 0, .int .i64 0, .int .i64 0] 43) := by
    rw [hb1.block _ (Nat.lt_succ_self _), Below.heap_alloc _ _ _ (by simp)]
    exact heap_alloc_new w _
  have j0 : w1.cell? ⟨w.heap.size, 0, none⟩ = some (.int .i64 0) := by rw [cell_of_row _ _ _ _ _ _ hr]; rfl
  have j1 : w1.cell? ⟨w.heap.size, 1, none⟩ = some (.int .i64 0) := by rw [cell_of_row _ _ _ _ _ _ hr]; rfl
  have j2 : w1.cell? ⟨w.heap.size, 2, none⟩ = some (.int .i64 0) := by rw [cell_of_row _ _ _ _ _ _ hr]; rfl
  have f0 : w1.frozen? ⟨w.heap.size, 0, none⟩ = false := frozen_of_row _ _ 0 _ _ hr
  have f1 : w1.frozen? ⟨w.heap.size, 1, none⟩ = false := frozen_of_row _ _ 1 _ _ hr
  have f2 : w1.frozen? ⟨w.heap.size, 2, none⟩ = false := frozen_of_row _ _ 2 _ _ hr
  have HB1 := Lib.hid ((((Below.refl w.heap.size w).alloc (Nat.le_refl _) _).alloc (by simp) _).trans (hb1.mono (Nat.le_succ _)))
  clear hh hb1 hr
  go_wp2
  refine bodyPost_ret (v := .agg #[.int .i64 x, .int .i64 y, .int .i64 z]) ?_ rfl ⟨rfl, ((HB1.out.setCell (Nat.le_refl _) _).setCell (Nat.le_refl _) _).setCell (Nat.le_refl _) _⟩
  simp [results, Tryz.results35, go_sem, j0, j1, j2]
end Go.Proofs.YtjijgagdaolkcaaGreat
