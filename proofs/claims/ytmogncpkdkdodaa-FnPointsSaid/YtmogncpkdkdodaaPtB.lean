/- The program's boxPoints: the points of the box, three numbers each. -/
import Derived.Test.YtmogncpkdkdodaaRng
import Derived.Test.YtmogncpkdkdodaaMab
import Derived.Test.YtmogncpkdkdodaaMas
import Derived.Shelf.RegionOpen
import Derived.OwnWalkIn
import Derived.TacticsInMore
import Derived.LoopNIn
import Derived.LoopIn
namespace Go.Proofs.Ytmogncpkdkdodaa
open Go Go.RowKit Go.Lib Go.Shelf

attribute [local go_sem] Oper.semAt_some

/-- Three numbers as an array. -/
def nums3 (t : List Int) : Value := .agg #[.int .i64 (t.getD 0 0), .int .i64 (t.getD 1 0), .int .i64 (t.getD 2 0)]
abbrev encN (t : List Int) : Array Value := #[nums3 t]

theorem axis_step {e i : Nat} (h : i < (axis e).length) : -(e : Int) + i = (axis e)[i] := by rw [axis_get]; omega

theorem trip_next {e0 e1 e2 i j k : Nat} (hi : i < (axis e0).length) (hj : j < (axis e1).length) (hk : k < (axis e2).length) :
    tripAt (axis e0) (axis e1) (axis e2) i j k ++ [[-(e0 : Int) + i, -(e1 : Int) + j, -(e2 : Int) + k]] = tripAt (axis e0) (axis e1) (axis e2) i j (k + 1) := by
  rw [axis_step hi, axis_step hj, axis_step hk]; exact tripAt_step hi hj hk

set_option maxRecDepth 100000 in
set_option maxHeartbeats 3200000 in
theorem i_box1 (B e0 e1 e2 : Nat) (h0 : e0 ≤ 6) (h1 : e1 ≤ 6) (h2 : e2 ≤ 6) :
    SeqT Try.prog 126 #[.pointer (some ⟨B, 0, none⟩)] encN (tripL (axis e0) (axis e1) (axis e2)) (fun k => k = B)
      (fun W => Bk W B #[.int .i64 e0, .int .i64 e1, .int .i64 e2] 77) := by
  intro l J Jx T W sJ sJx hH hU hY hJ0
  have l0 := axis_len e0
  have l1 := axis_len e1
  have l2 := axis_len e2
  refine callsIn_of_wp Try.func126 rfl trivial ?_ rfl
  simp only [Try.ntmps126, List.size_toArray, List.length_cons, List.length_nil, Nat.reduceAdd, Nat.reduceSub, Array.replicate_succ, Array.replicate_zero, List.push_toArray, List.append_toArray, List.nil_append, List.cons_append]
  have hTB : ¬ T B := fun e => hU B e rfl
  have c0 : W.cell? ⟨B, 0, none⟩ = some (.int .i64 e0) := hH.cell 0 rfl
  have HY := Lib.hid hY
  have HH := Lib.hid hH
  clear hY hU hH
  gi_wp2
  gi_loopw [3] (fun x wr => ∃ (i : Nat) (T1 : Bs), i ≤ (axis e0).length ∧ x = .int .i64 (-(e0 : Int) + i) ∧ Grew T T1 W ∧ Fol T W wr ∧ J (tripAt (axis e0) (axis e1) (axis e2) i 0 0) T1 wr) (fun x _ => (2 * e0 + 1) - (RowKit.intOf x + e0).toNat)
  case atStart => exact ⟨0, T, Nat.zero_le _, by simp, Grew.refl _ _, Fol.refl _ _, by rw [tripAt_zero]; exact hJ0⟩
  case round =>
    obtain ⟨i, T1, hi, rfl, hg, hf, hj⟩ := hrel
    have HG := Lib.hid hg
    have HF := Lib.hid hf
    have HJ := Lib.hid hj
    have d0 : wr.cell? ⟨B, 0, none⟩ = some (.int .i64 e0) := (hf.bk HH.out hTB).cell 0 rfl
    have d1 : wr.cell? ⟨B, 1, none⟩ = some (.int .i64 e1) := (hf.bk HH.out hTB).cell 1 rfl
    clear hg hf hj
    by_cases hlt : i < (axis e0).length
    case neg =>
      obtain rfl : i = (axis e0).length := by omega
      clear hi hlt
      gi_wp2
      go_end0
      exact ⟨⟨_, rfl⟩, T1, HG.out, HF.out, .inl (by rw [← tripAt_all]; exact HJ.out)⟩
    have hle : -(e0 : Int) + i ≤ e0 := by omega
    have HI := Lib.hid hlt
    clear hi hlt
    rename World => w1
    gi_wp2
    gi_loopw [4] (fun x wr => ∃ (j : Nat) (T2 : Bs), j ≤ (axis e1).length ∧ x = .int .i64 (-(e1 : Int) + j) ∧ Grew T T2 W ∧ Fol T W wr ∧ J (tripAt (axis e0) (axis e1) (axis e2) i j 0) T2 wr) (fun x _ => (2 * e1 + 1) - (RowKit.intOf x + e1).toNat)
    case atStart => exact ⟨0, T1, Nat.zero_le _, by simp, HG.out, HF.out, HJ.out⟩
    case round =>
      obtain ⟨j, T2, hj, rfl, hg, hf, hJ⟩ := hrel
      have HG := Lib.hid hg
      have HF := Lib.hid hf
      have HJ := Lib.hid hJ
      have d1 : wr.cell? ⟨B, 1, none⟩ = some (.int .i64 e1) := (hf.bk HH.out hTB).cell 1 rfl
      have d2 : wr.cell? ⟨B, 2, none⟩ = some (.int .i64 e2) := (hf.bk HH.out hTB).cell 2 rfl
      clear hg hf hJ d0
      by_cases hlt : j < (axis e1).length
      case neg =>
        obtain rfl : j = (axis e1).length := by omega
        clear hj hlt
        gi_wp2
        go_roundw
        case rel => exact ⟨i + 1, T2, HI.out, by go_num, HG.out, HF.out, by rw [← tripAt_plane HI.out]; exact HJ.out⟩
        case measure => simp [RowKit.intOf]; omega
      have hle1 : -(e1 : Int) + j ≤ e1 := by omega
      have HI1 := Lib.hid hlt
      clear hj hlt
      rename World => w2
      gi_wp2
      gi_loopw [5] (fun x wr => ∃ (k : Nat) (T3 : Bs), k ≤ (axis e2).length ∧ x = .int .i64 (-(e2 : Int) + k) ∧ Grew T T3 W ∧ Fol T W wr ∧ J (tripAt (axis e0) (axis e1) (axis e2) i j k) T3 wr) (fun x _ => (2 * e2 + 1) - (RowKit.intOf x + e2).toNat)
      case atStart => exact ⟨0, T2, Nat.zero_le _, by simp, HG.out, HF.out, HJ.out⟩
      case round =>
        obtain ⟨k, T3, hk, rfl, hg, hf, hJ⟩ := hrel
        have HG := Lib.hid hg
        have HF := Lib.hid hf
        have HJ := Lib.hid hJ
        have d2 : wr.cell? ⟨B, 2, none⟩ = some (.int .i64 e2) := (hf.bk HH.out hTB).cell 2 rfl
        clear hg hf hJ
        by_cases hlt : k < (axis e2).length
        case neg =>
          obtain rfl : k = (axis e2).length := by omega
          clear hk hlt
          gi_wp2
          go_roundw
          case rel => exact ⟨j + 1, T3, HI1.out, by go_num, HG.out, HF.out, by rw [← tripAt_row HI.out HI1.out]; exact HJ.out⟩
          case measure => simp [RowKit.intOf]; omega
        have hle2 : -(e2 : Int) + k ≤ e2 := by omega
        have HI2 := Lib.hid hlt
        have hnx := trip_next HI.out HI1.out hlt
        have hpre : tripAt (axis e0) (axis e1) (axis e2) i j k ++ [[-(e0 : Int) + i, -(e1 : Int) + j, -(e2 : Int) + k]] <+: tripL (axis e0) (axis e1) (axis e2) := by
          rw [hnx]; exact tripAt_pre _ _ _ HI.out HI1.out
        obtain ⟨fn, tmps, assign, body, hy, hR⟩ := HY.out _ _ T3 _ HJ.out HG.out HF.out hpre
        have HR := Lib.hid hR
        clear hk hlt hR hpre
        have HN := Lib.hid hnx
        clear hnx
        replace hy : (Instr.yield l #[.agg #[.int .i64 (-(e0 : Int) + i), .int .i64 (-(e1 : Int) + j), .int .i64 (-(e2 : Int) + k)]]).run Try.prog wr = .ok (.round l fn tmps assign body) wr := hy
        rename World => w3
        gi_wp2
        refine (RoundIn.anyN HR.out).mono ?_
        rintro e w4 ⟨T4, hg4, hf4, ⟨rfl, hJ4⟩ | ⟨rfl, hJ4⟩⟩
        · have HG4 := Lib.hid (HG.out.trans hg4 HF.out.size)
          have HF4 := Lib.hid (HF.out.trans HG.out hf4)
          have HJ4 := Lib.hid hJ4
          clear hg4 hf4 hJ4
          gi_wp2
          go_roundw
          case rel => exact ⟨k + 1, T4, HI2.out, by go_num, HG4.out, HF4.out, by rw [← HN.out]; exact HJ4.out⟩
          case measure => simp [RowKit.intOf]; omega
        · have HG4 := Lib.hid (HG.out.trans hg4 HF.out.size)
          have HF4 := Lib.hid (HF.out.trans HG.out hf4)
          have HJ4 := Lib.hid hJ4
          clear hg4 hf4 hJ4
          gi_wp2
          refine bodyPost_ret (results_none rfl _ _ _) rfl ?_
          refine ⟨⟨_, rfl⟩, T4, HG4.out, HF4.out, .inr ⟨_, ?_, HJ4.out⟩⟩
          rw [HN.out]; exact tripAt_pre _ _ _ HI.out HI1.out

/-- What boxPoints leaves: the function that yields the points of the box. -/
def SeqBox (w : World) (n : Int) (e : Ending) (w' : World) : Prop :=
  e = .returned (.func (.func 126) #[] #[.pointer (some ⟨w.heap.size, 0, none⟩)]) ∧ Bk w' w.heap.size #[.int .i64 (edge n 0), .int .i64 (edge n 1), .int .i64 (edge n 2)] 77 ∧ Below w.heap.size w w'
theorem bk3_new (w : World) (x y z : Value) (T : TypeId) : Bk (w.alloc (.cells #[x, y, z] T)) w.heap.size #[x, y, z] T := Bk.new w _ T

set_option maxRecDepth 100000 in
set_option maxHeartbeats 1600000 in
theorem i_box (n : Nat) (h1 : 1 ≤ n) (h3 : n ≤ 3) (w : World) :
    Calls Try.prog 98 #[.int .i64 n] w (SeqBox w n) := by
  have hn : n = 1 ∨ n = 2 ∨ n = 3 := by omega
  clear h1 h3
  rcases hn with rfl | rfl | rfl
  · go_enter Try.func98, Try.ntmps98
    go_wp2_with fail
    refine wp_loop_rounds 2 ?_
    rw [rounds_succ]
    go_wp2_with fail
    rw [rounds_succ]
    go_wp2_with fail
    go_ret
    exact ⟨rfl, bk3_new w _ _ _ _, below1 w _⟩
  · go_enter Try.func98, Try.ntmps98
    go_wp2_with fail
    refine wp_loop_rounds 3 ?_
    rw [rounds_succ]
    go_wp2_with fail
    rw [rounds_succ]
    go_wp2_with fail
    rw [rounds_succ]
    go_wp2_with fail
    go_ret
    exact ⟨rfl, bk3_new w _ _ _ _, below1 w _⟩
  · go_enter Try.func98, Try.ntmps98
    go_wp2_with fail
    refine wp_loop_rounds 4 ?_
    rw [rounds_succ]
    go_wp2_with fail
    rw [rounds_succ]
    go_wp2_with fail
    rw [rounds_succ]
    go_wp2_with fail
    rw [rounds_succ]
    go_wp2_with fail
    go_ret
    exact ⟨rfl, bk3_new w _ _ _ _, below1 w _⟩
end Go.Proofs.Ytmogncpkdkdodaa
