/- The model's l1Read: the integer of at most so many digits whose numeral the text is. -/
import Derived.Test.YtflkalgofkpdbaaDoorMa
import Derived.Defers
import Derived.Recover
import Derived.Lib.SplitLaws
import Derived.Lib.Split
import Derived.Test.YtflkalgofkpdbaaDoorProg
import Derived.WalkLawsBesides
import Derived.Deep.AppendLies
import Derived.Deep.DeepMust
import Derived.Deep.Onto
import Derived.WalkSpells
import Derived.BigQuiet
import Derived.Deep.QuietTactic
import Derived.Lib.Join
import Derived.Lib.AppendStr
import Derived.Laws.BytesString
import Derived.Lib.ItoaLen
import Derived.Laws.StructEq
import Derived.Laws.Cover2
import Derived.Deep.Slices
namespace Go.Proofs.YtflkalgofkpdbaaDoor
open Go.RowKit Go.Lib

/-- How a reading ends. -/
def RdEnd (most : Nat) (l : List UInt8) (W : World) (e : Ending) (w' : World) : Prop :=
  ((∃ n, Rd most l n ∧ e = .returned (.tuple #[.int .i64 n, .bool true])) ∨ ((∀ n, ¬ Rd most l n) ∧ e = .returned (.tuple #[.int .i64 0, .bool false]))) ∧ Below W.heap.size W w'

theorem val_step (s : ByteArray) (k : Nat) (h : k < s.size) : val (s.data.toList.take (k + 1)) = val (s.data.toList.take k) * 10 + (s[k].toNat - 48) := by
  rw [List.take_succ_eq_append_getElem (by simpa using h), val_snoc]; rfl
theorem dig_step (s : ByteArray) (k : Nat) (h : k < s.size) (hd : ∀ c ∈ s.data.toList.take k, isDig c) (hc : isDig s[k]) : ∀ c ∈ s.data.toList.take (k + 1), isDig c := by
  rw [List.take_succ_eq_append_getElem (by simpa using h)]
  intro c hc'
  rw [List.mem_append, List.mem_singleton] at hc'
  rcases hc' with h1 | h1
  · exact hd c h1
  · subst h1; exact hc
theorem byte_mem (s : ByteArray) (k : Nat) (h : k < s.size) : s[k] ∈ s.data.toList := by
  have : s[k] = s.data.toList[k]'(by simpa using h) := rfl
  rw [this]; exact List.getElem_mem _
theorem val_take_lt (s : ByteArray) (k : Nat) (hk : k ≤ 12) (hd : ∀ c ∈ s.data.toList.take k, isDig c) : val (s.data.toList.take k) < 1000000000000 := by
  have h1 := val_lt _ _ rfl hd
  have h2 : (s.data.toList.take k).length ≤ 12 := by rw [List.length_take]; omega
  have h3 : 10 ^ (s.data.toList.take k).length ≤ 10 ^ 12 := Nat.pow_le_pow_right (by omega) h2
  omega
theorem rd_end_no {most : Nat} {l : List UInt8} {W w' : World} (h : ∀ n, ¬ Rd most l n) (hb : Below W.heap.size W w') : RdEnd most l W (.returned (.tuple #[.int .i64 0, .bool false])) w' := ⟨.inr ⟨h, rfl⟩, hb⟩
theorem rd_end_yes {most : Nat} {l : List UInt8} {W w' : World} {n : Int} (h : Rd most l n) (hb : Below W.heap.size W w') : RdEnd most l W (.returned (.tuple #[.int .i64 n, .bool true])) w' := ⟨.inl ⟨n, h, rfl⟩, hb⟩


set_option maxRecDepth 100000 in
set_option maxHeartbeats 400000 in
theorem rd_plain (s : ByteArray) (most : Nat) (hm1 : 1 ≤ most) (hm2 : most ≤ 12) (hp : Parts s.data.toList s.data.toList false) (h1 : 0 < s.size) (h2 : s.size ≤ most) (w : World) :
    Calls Tryd.prog 42 #[.string s, .int .i64 most] w (RdEnd most s.data.toList w) := by
  have hgt : decide (most < s.size) = false := by simp; omega
  have h45 : ((s[0].toNat : Int) == 45) = false := by
    rcases hp with ⟨h, _⟩ | ⟨_, _, h⟩
    · cases h
    · have hne : s.data.toList = s[0] :: s.data.toList.tail := by
        cases hl : s.data.toList with
        | nil => have := congrArg List.length hl; simp at this; have h3 : s.size = s.data.size := rfl; rw [h3, this] at h1; simp at h1
        | cons a t => simp only [List.tail_cons, List.cons.injEq, and_true]; show a = s.data.toList[0]'_; simp [hl]
      have := h _ _ hne
      rw [beq_eq_false_iff_ne]
      intro e
      exact this (UInt8.toNat_inj.1 (by rw [show (45 : UInt8).toNat = 45 from rfl]; omega))
  have HP := Lib.hid hp
  clear hp
  go_enter Tryd.func42, Tryd.ntmps42
  go_wp2
  go_loop [8, 9] (fun n i => ∃ k : Nat, k ≤ s.size ∧ i = .int .i64 k ∧ n = .int .i64 (val (s.data.toList.take k)) ∧ ∀ c ∈ s.data.toList.take k, isDig c) (fun _ i => s.size - (intOf i).toNat)
  case atStart => exact ⟨0, Nat.zero_le _, rfl, rfl, by simp⟩
  case round =>
    obtain ⟨k, hk, rfl, rfl, hd⟩ := hrel
    have hv := val_take_lt s k (by omega) hd
    by_cases hlt : k < s.size
    · have HS := Lib.hid (val_step s k hlt)
      have HD := Lib.hid hd
      clear hd
      by_cases hc : isDig s[k]
      · have hc1 : decide ((s[k].toNat : Int) < 48) = false := by unfold isDig at hc; simp; omega
        have hc2 : decide ((57 : Int) < (s[k].toNat : Int)) = false := by unfold isDig at hc; simp; omega
        have HC := Lib.hid hc
        clear hc
        go_wp2
        refine ⟨⟨k + 1, by omega, by go_num, ?_, dig_step s k hlt HD.out HC.out⟩, by simp [intOf]; omega⟩
        have hb := HC.out
        unfold isDig at hb
        rw [HS.out]
        exact int_eq (by omega)
      · have hno := rd_none_dig HP.out hm1 (byte_mem s k hlt) hc
        have HN := Lib.hid hno
        clear hno
        by_cases hc1 : s[k].toNat < 48
        · have hc1' : decide ((s[k].toNat : Int) < 48) = true := by simp; omega
          go_wp2
          go_ret2
          exact rd_end_no HN.out (Below.refl _ _)
        · have hc1' : decide ((s[k].toNat : Int) < 48) = false := by simp; omega
          have hc2 : decide ((57 : Int) < (s[k].toNat : Int)) = true := by unfold isDig at hc; simp; omega
          go_wp2
          go_ret2
          exact rd_end_no HN.out (Below.refl _ _)
    · obtain rfl : k = s.size := by omega
      have htk : s.data.toList.take s.size = s.data.toList := List.take_of_length_le (by simp)
      obtain ⟨v, hv'⟩ : ∃ v, v = val (s.data.toList.take s.size) := ⟨_, rfl⟩
      rw [← hv'] at hv ⊢
      rw [htk] at hd hv'
      have HD := Lib.hid hd
      have HV := Lib.hid hv'
      clear hd hv' htk
      by_cases hfin : s.data.toList = itoa v
      · have hq : (!itoa (v : Int) == s.toList) = false := by rw [ByteArray.toList_eq, ← hfin]; simp
        have HF := Lib.hid hfin
        clear hfin
        go_wp2_with fail
        refine (fi_any v (by omega) (by omega) _).mono ?_
        rintro e w1 ⟨rfl, hb1⟩
        go_wp2_with fail
        go_ret2
        have hv2 := HV.out
        subst hv2
        exact rd_end_yes (rd_some HP.out HD.out (by simpa using h2) HF.out) hb1
      · have hq : (!itoa (v : Int) == s.toList) = true := by rw [ByteArray.toList_eq]; simpa using fun e => hfin e.symm
        have HF := Lib.hid hfin
        clear hfin
        go_wp2_with fail
        refine (fi_any v (by omega) (by omega) _).mono ?_
        rintro e w1 ⟨rfl, hb1⟩
        go_wp2_with fail
        go_ret2
        have hv2 := HV.out
        subst hv2
        exact rd_end_no (rd_none_ne HP.out hm1 HF.out) hb1
set_option maxRecDepth 100000 in
set_option maxHeartbeats 400000 in
theorem rd_minus (s T : ByteArray) (most : Nat) (hm1 : 1 ≤ most) (hm2 : most ≤ 12) (hT : s.extract 1 s.size = T) (hp : Parts s.data.toList T.data.toList true) (h1 : 0 < T.size) (h2 : T.size ≤ most) (w : World) :
    Calls Tryd.prog 42 #[.string s, .int .i64 most] w (RdEnd most s.data.toList w) := by
  have hgt : decide (most < T.size) = false := by simp; omega
  have hsz : T.size + 1 = s.size := by
    rcases hp with ⟨_, h⟩ | ⟨h, _⟩
    · have := congrArg List.length h
      simp only [List.length_cons, Array.length_toList] at this
      exact this.symm
    · cases h
  have h0 : 0 < s.size := by omega
  have h45 : ((s[0].toNat : Int) == 45) = true := by
    rcases hp with ⟨_, h⟩ | ⟨h, _⟩
    · have hne : s.data.toList[0]? = some 45 := by rw [h]; rfl
      have : s[0] = s.data.toList[0]'(by simpa using h0) := rfl
      rw [List.getElem?_eq_getElem (by simpa using h0)] at hne
      rw [this, Option.some.inj hne]; rfl
    · cases h
  have HSZ := Lib.hid hsz
  have hsz1 : T.size + 1 ≤ s.size := by omega
  have hsz2 : s.size ≤ T.size + 1 := by omega
  clear hsz
  have HP := Lib.hid hp
  clear hp
  go_enter Tryd.func42, Tryd.ntmps42
  go_wp2
  go_loop [8, 9] (fun n i => ∃ k : Nat, k ≤ T.size ∧ i = .int .i64 k ∧ n = .int .i64 (val (T.data.toList.take k)) ∧ ∀ c ∈ T.data.toList.take k, isDig c) (fun _ i => T.size - (intOf i).toNat)
  case atStart => exact ⟨0, Nat.zero_le _, rfl, rfl, by simp⟩
  case round =>
    obtain ⟨k, hk, rfl, rfl, hd⟩ := hrel
    have hv := val_take_lt T k (by omega) hd
    by_cases hlt : k < T.size
    · have HS := Lib.hid (val_step T k hlt)
      have HD := Lib.hid hd
      clear hd
      by_cases hc : isDig T[k]
      · have hc1 : decide ((T[k].toNat : Int) < 48) = false := by unfold isDig at hc; simp; omega
        have hc2 : decide ((57 : Int) < (T[k].toNat : Int)) = false := by unfold isDig at hc; simp; omega
        have HC := Lib.hid hc
        clear hc
        go_wp2
        refine ⟨⟨k + 1, by omega, by go_num, ?_, dig_step T k hlt HD.out HC.out⟩, by simp [intOf]; omega⟩
        have hb := HC.out
        unfold isDig at hb
        rw [HS.out]
        exact int_eq (by omega)
      · have hno := rd_none_dig HP.out hm1 (byte_mem T k hlt) hc
        have HN := Lib.hid hno
        clear hno
        by_cases hc1 : T[k].toNat < 48
        · have hc1' : decide ((T[k].toNat : Int) < 48) = true := by simp; omega
          go_wp2
          go_ret2
          exact rd_end_no HN.out (Below.refl _ _)
        · have hc1' : decide ((T[k].toNat : Int) < 48) = false := by simp; omega
          have hc2 : decide ((57 : Int) < (T[k].toNat : Int)) = true := by unfold isDig at hc; simp; omega
          go_wp2
          go_ret2
          exact rd_end_no HN.out (Below.refl _ _)
    · obtain rfl : k = T.size := by omega
      have htk : T.data.toList.take T.size = T.data.toList := List.take_of_length_le (by simp)
      obtain ⟨v, hv'⟩ : ∃ v, v = val (T.data.toList.take T.size) := ⟨_, rfl⟩
      rw [← hv'] at hv ⊢
      rw [htk] at hd hv'
      have HD := Lib.hid hd
      have HV := Lib.hid hv'
      clear hd hv' htk
      by_cases hfin : s.data.toList = itoa (-(v : Int))
      · have hq : (!itoa (-(v : Int)) == s.toList) = false := by rw [ByteArray.toList_eq, ← hfin]; simp
        have HF := Lib.hid hfin
        clear hfin
        go_wp2_with fail
        refine (fi_any (-(v : Int)) (by omega) (by omega) _).mono ?_
        rintro e w1 ⟨rfl, hb1⟩
        go_wp2_with fail
        go_ret2
        have hv2 := HV.out
        subst hv2
        exact rd_end_yes (rd_some HP.out HD.out (by simpa using h2) HF.out) hb1
      · have hq : (!itoa (-(v : Int)) == s.toList) = true := by rw [ByteArray.toList_eq]; simpa using fun e => hfin e.symm
        have HF := Lib.hid hfin
        clear hfin
        go_wp2_with fail
        refine (fi_any (-(v : Int)) (by omega) (by omega) _).mono ?_
        rintro e w1 ⟨rfl, hb1⟩
        go_wp2_with fail
        go_ret2
        have hv2 := HV.out
        subst hv2
        exact rd_end_no (rd_none_ne HP.out hm1 HF.out) hb1

set_option maxRecDepth 100000 in
set_option maxHeartbeats 400000 in
theorem rd_empty (s : ByteArray) (most : Nat) (hs : s.size = 0) (hno : ∀ n, ¬ Rd most s.data.toList n) (w : World) :
    Calls Tryd.prog 42 #[.string s, .int .i64 most] w (RdEnd most s.data.toList w) := by
  have HN := Lib.hid hno
  clear hno
  go_enter Tryd.func42, Tryd.ntmps42
  go_wp2
  go_ret2
  exact rd_end_no HN.out (Below.refl _ _)

set_option maxRecDepth 100000 in
set_option maxHeartbeats 400000 in
theorem rd_long (s : ByteArray) (most : Nat) (h0 : 0 < s.size) (hs : s.size ≤ maxLen) (h45 : ((s[0].toNat : Int) == 45) = false) (h2 : most < s.size) (hno : ∀ n, ¬ Rd most s.data.toList n) (w : World) :
    Calls Tryd.prog 42 #[.string s, .int .i64 most] w (RdEnd most s.data.toList w) := by
  unfold maxLen at hs
  have hgt : decide (most < s.size) = true := by simpa using h2
  have HN := Lib.hid hno
  clear hno
  go_enter Tryd.func42, Tryd.ntmps42
  go_wp2
  go_ret2
  exact rd_end_no HN.out (Below.refl _ _)

set_option maxRecDepth 100000 in
set_option maxHeartbeats 400000 in
theorem rd_minus_none (s T : ByteArray) (most : Nat) (hT : s.extract 1 s.size = T) (h0 : 0 < s.size) (h45 : ((s[0].toNat : Int) == 45) = true) (h2 : T.size = 0) (hno : ∀ n, ¬ Rd most s.data.toList n) (w : World) :
    Calls Tryd.prog 42 #[.string s, .int .i64 most] w (RdEnd most s.data.toList w) := by
  have HN := Lib.hid hno
  clear hno
  go_enter Tryd.func42, Tryd.ntmps42
  go_wp2
  go_ret2
  exact rd_end_no HN.out (Below.refl _ _)

set_option maxRecDepth 100000 in
set_option maxHeartbeats 400000 in
theorem rd_minus_long (s T : ByteArray) (most : Nat) (hT : s.extract 1 s.size = T) (h0 : 0 < s.size) (hs : T.size ≤ maxLen) (h45 : ((s[0].toNat : Int) == 45) = true) (h1 : 0 < T.size) (h2 : most < T.size) (hno : ∀ n, ¬ Rd most s.data.toList n) (w : World) :
    Calls Tryd.prog 42 #[.string s, .int .i64 most] w (RdEnd most s.data.toList w) := by
  unfold maxLen at hs
  have hgt : decide (most < T.size) = true := by simpa using h2
  have HN := Lib.hid hno
  clear hno
  go_enter Tryd.func42, Tryd.ntmps42
  go_wp2
  go_ret2
  exact rd_end_no HN.out (Below.refl _ _)

theorem rd_any (s : ByteArray) (most : Nat) (hm1 : 1 ≤ most) (hm2 : most ≤ 12) (hs : s.size ≤ maxLen) (w : World) :
    Calls Tryd.prog 42 #[.string s, .int .i64 most] w (RdEnd most s.data.toList w) := by
  have hlen := list_len s
  cases hl : s.data.toList with
  | nil =>
    rw [hl] at hlen
    have hp : Parts s.data.toList s.data.toList false := .inr ⟨rfl, rfl, by rw [hl]; intro c r h; cases h⟩
    rw [← hl]
    exact rd_empty s most (by simpa using hlen.symm) (rd_none_len hp hm1 (.inl (by rw [hl]; rfl))) w
  | cons c r =>
    rw [hl] at hlen
    simp only [List.length_cons] at hlen
    have h0 : 0 < s.size := by omega
    have hc : s[0] = c := by
      have : s[0] = s.data.toList[0]'(by rw [list_len]; exact h0) := rfl
      rw [this]; simp [hl]
    rw [← hl]
    by_cases h45 : c = 45
    · have hb : ((s[0].toNat : Int) == 45) = true := by rw [hc, h45]; rfl
      have hTl : (s.extract 1 s.size).data.toList = r := by
        rw [ByteArray.data_extract, Array.toList_extract, hl]
        simp [List.extract_eq_take_drop]
        rw [List.take_of_length_le]; omega
      have hp : Parts s.data.toList (s.extract 1 s.size).data.toList true := .inl ⟨rfl, by rw [hTl, hl, h45]⟩
      have hTs : (s.extract 1 s.size).size = r.length := by rw [← list_len, hTl]
      by_cases hz : r.length = 0
      · exact rd_minus_none s _ most rfl h0 hb (by omega) (rd_none_len hp hm1 (.inl (by rw [list_len]; omega))) w
      · by_cases hlg : most < r.length
        · exact rd_minus_long s _ most rfl h0 (by omega) hb (by omega) (by omega) (rd_none_len hp hm1 (.inr (by rw [list_len]; omega))) w
        · exact rd_minus s _ most hm1 hm2 rfl hp (by omega) (by omega) w
    · have hp : Parts s.data.toList s.data.toList false := .inr ⟨rfl, rfl, by rw [hl]; intro d t h; cases h; exact h45⟩
      have hb : ((s[0].toNat : Int) == 45) = false := by
        rw [hc, beq_eq_false_iff_ne]; intro e
        exact h45 (UInt8.toNat_inj.1 (by rw [show (45 : UInt8).toNat = 45 from rfl]; omega))
      by_cases hlg : most < s.size
      · exact rd_long s most h0 hs hb hlg (rd_none_len hp hm1 (.inr (by rw [list_len]; omega))) w
      · exact rd_plain s most hm1 hm2 hp h0 (by omega) w
end Go.Proofs.YtflkalgofkpdbaaDoor
/- The program's exported readers of integers: FormatInt's converse, by a deferred recover. -/
namespace Go.Proofs.YtflkalgofkpdbaaDoor
open Go.RowKit Go.Lib


theorem pi_catch (p q : Addr) (x : Int) (b : Bool) (u : TypeId) (pv : Value) (w : World) (hc : w.cell? p = some (.int .i64 x)) (hz : w.frozen? p = false) (hd : w.cell? q = some (.bool b)) (hy : w.frozen? q = false) (hne : p.block ≠ q.block) :
    CallsD Tryd.prog 67 #[.pointer (some p), .pointer (some q)] (.panicking [{ v := .iface u pv, recovered := false }]) w fun e u' w' =>
      e = .returned (.tuple #[]) ∧ u' = .panicking [{ v := .iface u pv, recovered := true }] ∧ w' = (w.setCell p (.int .i64 0)).setCell q (.bool false) := by
  have hd' : (w.setCell p (.int .i64 0)).cell? q = some (.bool b) := by rw [World.cell?_setCell_other _ _ _ _ (fun e => hne (by rw [e]))]; exact hd
  refine callsD_of_wpS Tryd.func67 rfl fun c₀ cs hu => ?_
  apply wpS_seq
  apply wpS_region
  simp [wpOpsS, go_sem, recoverD, hu, Tryd.ntmps67, Exit.thenS]
  refine wpS_cond (t := true) (by simp [Act.eval, Array.replicate]) ?_
  simp only [if_true]
  apply wpS_region
  simp [wpOpsS, go_sem, hc, hz, hd', hy, bodyPostS, results, Tryd.results67]

theorem pi_idle (p q : Addr) (w : World) :
    CallsD Tryd.prog 67 #[.pointer (some p), .pointer (some q)] .returning w fun e u' w' => e = .returned (.tuple #[]) ∧ u' = .returning ∧ w' = w := by
  refine callsD_of_wpS Tryd.func67 rfl fun c₀ cs hu => ?_
  apply wpS_seq
  apply wpS_region
  simp [wpOpsS, go_sem, recoverD, hu, Tryd.ntmps67, Exit.thenS]
  refine wpS_cond (t := false) (by simp [Act.eval, Array.replicate]) ?_
  simp only [Bool.false_eq_true, if_false]
  refine wpS_of_wp (wp_skip ?_)
  cases c₀
  simp_all [bodyPostS, results, Tryd.results67]

set_option maxRecDepth 100000 in
set_option maxHeartbeats 400000 in
theorem pi_fell (s : ByteArray) (w : World)
    (hri : ∀ W, Vars W → Calls Tryd.prog 46 #[.string s, .int .i64 (-999999999999), .int .i64 999999999999] W (Fell W)) (hv : Vars w) :
    Calls Tryd.prog 48 #[.string s] w fun e w' => e = .returned (.tuple #[.int .i64 0, .bool false]) ∧ Below w.heap.size w w' := by
  have hmf' := @hmf Tryd.prog
  have hvW := hv.below (((Below.refl w.heap.size w).alloc (Nat.le_refl _) (.cells #[.int .i64 0] 3)).alloc (by simp) (.cells #[.bool false] 4))
  have HR := Lib.hid hri
  have HV := Lib.hid hvW
  clear hri hvW hv
  go_enter_defers Tryd.func48, Tryd.ntmps48
  go_wp2_with fail
  refine (HR.out _ HV.out).mono ?_
  rintro e w1 ⟨⟨pv, rfl⟩, hb⟩
  obtain ⟨hc, hf⟩ := bcell hb
  have hz := hb.size
  simp only [World.size_alloc] at hc hf hz
  have c0 : w1.cell? ⟨w.heap.size, 0, none⟩ = some (.int .i64 0) := by rw [hc _ _ (by omega)]; simp [go_sem]
  have c1 : w1.cell? ⟨w.heap.size + 1, 0, none⟩ = some (.bool false) := by rw [hc _ _ (by omega)]; simp [go_sem]
  have f0 : w1.frozen? ⟨w.heap.size, 0, none⟩ = false := by rw [hf _ _ (by omega)]; simp [go_sem]
  have f1 : w1.frozen? ⟨w.heap.size + 1, 0, none⟩ = false := by rw [hf _ _ (by omega)]; simp [go_sem]
  clear hc hf
  go_wp2_with fail
  refine leaves_cons (f := 67) (args := #[.pointer (some ⟨w.heap.size, 0, none⟩), .pointer (some ⟨w.heap.size + 1, 0, none⟩)]) (by simp) (by simp [go_sem]) ?_
  refine (pi_catch ⟨w.heap.size, 0, none⟩ ⟨w.heap.size + 1, 0, none⟩ 0 false 9 pv _ c0 f0 c1 f1 (by simp)).mono ?_
  rintro e u' w'' ⟨rfl, rfl, rfl⟩
  have hbw : Below w.heap.size w ((w1.setCell ⟨w.heap.size, 0, none⟩ (.int .i64 0)).setCell ⟨w.heap.size + 1, 0, none⟩ (.bool false)) :=
    (((((Below.refl w.heap.size w).alloc (Nat.le_refl _) _).alloc (by simp) _).trans (hb.mono (by simp; omega))).setCell (by simp) _).setCell (by simp) _
  have HB := Lib.hid hbw
  clear hbw
  simp [Leaves, settle, results, Tryd.results48, go_sem, c0, c1]
  exact HB.out

set_option maxRecDepth 100000 in
set_option maxHeartbeats 400000 in
theorem pi_ret (s : ByteArray) (v : Int) (w : World)
    (hri : ∀ W, Vars W → Calls Tryd.prog 46 #[.string s, .int .i64 (-999999999999), .int .i64 999999999999] W fun e w' => e = .returned (.int .i64 v) ∧ Below W.heap.size W w') (hv : Vars w) :
    Calls Tryd.prog 48 #[.string s] w fun e w' => e = .returned (.tuple #[.int .i64 v, .bool true]) ∧ Below w.heap.size w w' := by
  have hmf' := @hmf Tryd.prog
  have hvW := hv.below (((Below.refl w.heap.size w).alloc (Nat.le_refl _) (.cells #[.int .i64 0] 3)).alloc (by simp) (.cells #[.bool false] 4))
  have HR := Lib.hid hri
  have HV := Lib.hid hvW
  clear hri hvW hv
  go_enter_defers Tryd.func48, Tryd.ntmps48
  go_wp2_with fail
  refine (HR.out _ HV.out).mono ?_
  rintro e w1 ⟨rfl, hb⟩
  obtain ⟨hc, hf⟩ := bcell hb
  have hz := hb.size
  simp only [World.size_alloc] at hc hf hz
  have c0 : w1.cell? ⟨w.heap.size, 0, none⟩ = some (.int .i64 0) := by rw [hc _ _ (by omega)]; simp [go_sem]
  have c1 : w1.cell? ⟨w.heap.size + 1, 0, none⟩ = some (.bool false) := by rw [hc _ _ (by omega)]; simp [go_sem]
  have f0 : w1.frozen? ⟨w.heap.size, 0, none⟩ = false := by rw [hf _ _ (by omega)]; simp [go_sem]
  have f1 : w1.frozen? ⟨w.heap.size + 1, 0, none⟩ = false := by rw [hf _ _ (by omega)]; simp [go_sem]
  clear hc hf
  go_wp2_with fail
  refine leaves_cons (f := 67) (args := #[.pointer (some ⟨w.heap.size, 0, none⟩), .pointer (some ⟨w.heap.size + 1, 0, none⟩)]) (by simp) (by simp [go_sem]) ?_
  refine (pi_idle ⟨w.heap.size, 0, none⟩ ⟨w.heap.size + 1, 0, none⟩ _).mono ?_
  rintro e u' w'' ⟨rfl, rfl, rfl⟩
  have hbw : Below w.heap.size w ((w1.setCell ⟨w.heap.size, 0, none⟩ (.int .i64 v)).setCell ⟨w.heap.size + 1, 0, none⟩ (.bool true)) :=
    (((((Below.refl w.heap.size w).alloc (Nat.le_refl _) _).alloc (by simp) _).trans (hb.mono (by simp; omega))).setCell (by simp) _).setCell (by simp) _
  have HB := Lib.hid hbw
  clear hbw
  simp [Leaves, settle, results, Tryd.results48, go_sem, c0, c1]
  exact HB.out

theorem pn_catch (p q : Addr) (x : Int) (b : Bool) (u : TypeId) (pv : Value) (w : World) (hc : w.cell? p = some (.int .i64 x)) (hz : w.frozen? p = false) (hd : w.cell? q = some (.bool b)) (hy : w.frozen? q = false) (hne : p.block ≠ q.block) :
    CallsD Tryd.prog 45 #[.pointer (some p), .pointer (some q)] (.panicking [{ v := .iface u pv, recovered := false }]) w fun e u' w' =>
      e = .returned (.tuple #[]) ∧ u' = .panicking [{ v := .iface u pv, recovered := true }] ∧ w' = (w.setCell p (.int .i64 0)).setCell q (.bool false) := by
  have hd' : (w.setCell p (.int .i64 0)).cell? q = some (.bool b) := by rw [World.cell?_setCell_other _ _ _ _ (fun e => hne (by rw [e]))]; exact hd
  refine callsD_of_wpS Tryd.func45 rfl fun c₀ cs hu => ?_
  apply wpS_seq
  apply wpS_region
  simp [wpOpsS, go_sem, recoverD, hu, Tryd.ntmps45, Exit.thenS]
  refine wpS_cond (t := true) (by simp [Act.eval, Array.replicate]) ?_
  simp only [if_true]
  apply wpS_region
  simp [wpOpsS, go_sem, hc, hz, hd', hy, bodyPostS, results, Tryd.results45]

theorem pn_idle (p q : Addr) (w : World) :
    CallsD Tryd.prog 45 #[.pointer (some p), .pointer (some q)] .returning w fun e u' w' => e = .returned (.tuple #[]) ∧ u' = .returning ∧ w' = w := by
  refine callsD_of_wpS Tryd.func45 rfl fun c₀ cs hu => ?_
  apply wpS_seq
  apply wpS_region
  simp [wpOpsS, go_sem, recoverD, hu, Tryd.ntmps45, Exit.thenS]
  refine wpS_cond (t := false) (by simp [Act.eval, Array.replicate]) ?_
  simp only [Bool.false_eq_true, if_false]
  refine wpS_of_wp (wp_skip ?_)
  cases c₀
  simp_all [bodyPostS, results, Tryd.results45]

set_option maxRecDepth 100000 in
set_option maxHeartbeats 400000 in
theorem pn_fell (s : ByteArray) (w : World)
    (hri : ∀ W, Vars W → Calls Tryd.prog 46 #[.string s, .int .i64 (0), .int .i64 999999] W (Fell W)) (hv : Vars w) :
    Calls Tryd.prog 28 #[.string s] w fun e w' => e = .returned (.tuple #[.int .i64 0, .bool false]) ∧ Below w.heap.size w w' := by
  have hmf' := @hmf Tryd.prog
  have hvW := hv.below (((Below.refl w.heap.size w).alloc (Nat.le_refl _) (.cells #[.int .i64 0] 3)).alloc (by simp) (.cells #[.bool false] 4))
  have HR := Lib.hid hri
  have HV := Lib.hid hvW
  clear hri hvW hv
  go_enter_defers Tryd.func28, Tryd.ntmps28
  go_wp2_with fail
  refine (HR.out _ HV.out).mono ?_
  rintro e w1 ⟨⟨pv, rfl⟩, hb⟩
  obtain ⟨hc, hf⟩ := bcell hb
  have hz := hb.size
  simp only [World.size_alloc] at hc hf hz
  have c0 : w1.cell? ⟨w.heap.size, 0, none⟩ = some (.int .i64 0) := by rw [hc _ _ (by omega)]; simp [go_sem]
  have c1 : w1.cell? ⟨w.heap.size + 1, 0, none⟩ = some (.bool false) := by rw [hc _ _ (by omega)]; simp [go_sem]
  have f0 : w1.frozen? ⟨w.heap.size, 0, none⟩ = false := by rw [hf _ _ (by omega)]; simp [go_sem]
  have f1 : w1.frozen? ⟨w.heap.size + 1, 0, none⟩ = false := by rw [hf _ _ (by omega)]; simp [go_sem]
  clear hc hf
  go_wp2_with fail
  refine leaves_cons (f := 45) (args := #[.pointer (some ⟨w.heap.size, 0, none⟩), .pointer (some ⟨w.heap.size + 1, 0, none⟩)]) (by simp) (by simp [go_sem]) ?_
  refine (pn_catch ⟨w.heap.size, 0, none⟩ ⟨w.heap.size + 1, 0, none⟩ 0 false 9 pv _ c0 f0 c1 f1 (by simp)).mono ?_
  rintro e u' w'' ⟨rfl, rfl, rfl⟩
  have hbw : Below w.heap.size w ((w1.setCell ⟨w.heap.size, 0, none⟩ (.int .i64 0)).setCell ⟨w.heap.size + 1, 0, none⟩ (.bool false)) :=
    (((((Below.refl w.heap.size w).alloc (Nat.le_refl _) _).alloc (by simp) _).trans (hb.mono (by simp; omega))).setCell (by simp) _).setCell (by simp) _
  have HB := Lib.hid hbw
  clear hbw
  simp [Leaves, settle, results, Tryd.results28, go_sem, c0, c1]
  exact HB.out

set_option maxRecDepth 100000 in
set_option maxHeartbeats 400000 in
theorem pn_ret (s : ByteArray) (v : Int) (w : World)
    (hri : ∀ W, Vars W → Calls Tryd.prog 46 #[.string s, .int .i64 (0), .int .i64 999999] W fun e w' => e = .returned (.int .i64 v) ∧ Below W.heap.size W w') (hv : Vars w) :
    Calls Tryd.prog 28 #[.string s] w fun e w' => e = .returned (.tuple #[.int .i64 v, .bool true]) ∧ Below w.heap.size w w' := by
  have hmf' := @hmf Tryd.prog
  have hvW := hv.below (((Below.refl w.heap.size w).alloc (Nat.le_refl _) (.cells #[.int .i64 0] 3)).alloc (by simp) (.cells #[.bool false] 4))
  have HR := Lib.hid hri
  have HV := Lib.hid hvW
  clear hri hvW hv
  go_enter_defers Tryd.func28, Tryd.ntmps28
  go_wp2_with fail
  refine (HR.out _ HV.out).mono ?_
  rintro e w1 ⟨rfl, hb⟩
  obtain ⟨hc, hf⟩ := bcell hb
  have hz := hb.size
  simp only [World.size_alloc] at hc hf hz
  have c0 : w1.cell? ⟨w.heap.size, 0, none⟩ = some (.int .i64 0) := by rw [hc _ _ (by omega)]; simp [go_sem]
  have c1 : w1.cell? ⟨w.heap.size + 1, 0, none⟩ = some (.bool false) := by rw [hc _ _ (by omega)]; simp [go_sem]
  have f0 : w1.frozen? ⟨w.heap.size, 0, none⟩ = false := by rw [hf _ _ (by omega)]; simp [go_sem]
  have f1 : w1.frozen? ⟨w.heap.size + 1, 0, none⟩ = false := by rw [hf _ _ (by omega)]; simp [go_sem]
  clear hc hf
  go_wp2_with fail
  refine leaves_cons (f := 45) (args := #[.pointer (some ⟨w.heap.size, 0, none⟩), .pointer (some ⟨w.heap.size + 1, 0, none⟩)]) (by simp) (by simp [go_sem]) ?_
  refine (pn_idle ⟨w.heap.size, 0, none⟩ ⟨w.heap.size + 1, 0, none⟩ _).mono ?_
  rintro e u' w'' ⟨rfl, rfl, rfl⟩
  have hbw : Below w.heap.size w ((w1.setCell ⟨w.heap.size, 0, none⟩ (.int .i64 v)).setCell ⟨w.heap.size + 1, 0, none⟩ (.bool true)) :=
    (((((Below.refl w.heap.size w).alloc (Nat.le_refl _) _).alloc (by simp) _).trans (hb.mono (by simp; omega))).setCell (by simp) _).setCell (by simp) _
  have HB := Lib.hid hbw
  clear hbw
  simp [Leaves, settle, results, Tryd.results28, go_sem, c0, c1]
  exact HB.out

/-- What is read by both: an integer with a property that one at most has. -/
def PnEnd (l : List UInt8) (W : World) (e : Ending) (w' : World) : Prop :=
  ((∃ n, (Rd 6 l n ∧ 0 ≤ n) ∧ e = .returned (.tuple #[.int .i64 n, .bool true])) ∨ ((∀ n, ¬ (Rd 6 l n ∧ 0 ≤ n)) ∧ e = .returned (.tuple #[.int .i64 0, .bool false]))) ∧ Below W.heap.size W w'

theorem rd_atoi {most : Nat} (hm : most ≤ 12) {l : List UInt8} {n : Int} (h : Rd most l n) : atoiAll l = .ok n := by
  rw [h.1]
  have : 10 ^ most ≤ 10 ^ 12 := Nat.pow_le_pow_right (by omega) hm
  have h2 := h.2
  exact atoiAll_itoa n (by omega)

/-- impl.ParseInt, at every text. -/
theorem pi_any (s : ByteArray) (hs : s.size ≤ 1048576) (w : World) (hv : Vars w) :
    Calls Tryd.prog 48 #[.string s] w (RdEnd 12 s.data.toList w) := by
  by_cases h : ∃ v, atoiAll s.data.toList = .ok v
  · obtain ⟨v, h⟩ := h
    by_cases he : s.data.toList = itoa v
    · by_cases h1 : -999999999999 ≤ v
      · by_cases h2 : v ≤ 999999999999
        · exact (pi_ret s v w (fun W hW => ri_ret s hs _ _ v h he h1 h2 W hW) hv).mono fun e w' ⟨e1, e2⟩ => ⟨.inl ⟨v, ⟨he, by omega⟩, e1⟩, e2⟩
        · exact (pi_fell s w (fun W hW => ri_high s hs _ _ v h he h1 (by omega) W hW) hv).mono fun e w' ⟨e1, e2⟩ => ⟨.inr ⟨fun n hn => by have := rd_unique hn he; have := hn.2; omega, e1⟩, e2⟩
      · exact (pi_fell s w (fun W hW => ri_low s hs _ _ v h he (by omega) W hW) hv).mono fun e w' ⟨e1, e2⟩ => ⟨.inr ⟨fun n hn => by have := rd_unique hn he; have := hn.2; omega, e1⟩, e2⟩
    · exact (pi_fell s w (fun W hW => ri_ne s hs _ _ v h he W hW) hv).mono fun e w' ⟨e1, e2⟩ => ⟨.inr ⟨fun n hn => by
        have h3 := rd_atoi (by omega) hn
        rw [h] at h3
        injection h3 with h3
        exact he (by rw [h3]; exact hn.1), e1⟩, e2⟩
  · exact (pi_fell s w (fun W hW => ri_bad s hs _ _ (fun v hv' => h ⟨v, hv'⟩) W hW) hv).mono fun e w' ⟨e1, e2⟩ => ⟨.inr ⟨fun n hn => h ⟨n, rd_atoi (by omega) hn⟩, e1⟩, e2⟩

/-- impl.ParseNumber, at every text. -/
theorem pn_any (s : ByteArray) (hs : s.size ≤ 1048576) (w : World) (hv : Vars w) :
    Calls Tryd.prog 28 #[.string s] w (PnEnd s.data.toList w) := by
  by_cases h : ∃ v, atoiAll s.data.toList = .ok v
  · obtain ⟨v, h⟩ := h
    by_cases he : s.data.toList = itoa v
    · by_cases h1 : 0 ≤ v
      · by_cases h2 : v ≤ 999999
        · exact (pn_ret s v w (fun W hW => ri_ret s hs _ _ v h he h1 h2 W hW) hv).mono fun e w' ⟨e1, e2⟩ => ⟨.inl ⟨v, ⟨⟨he, by omega⟩, h1⟩, e1⟩, e2⟩
        · exact (pn_fell s w (fun W hW => ri_high s hs _ _ v h he h1 (by omega) W hW) hv).mono fun e w' ⟨e1, e2⟩ => ⟨.inr ⟨fun n hn => by have := rd_unique hn.1 he; have := hn.1.2; omega, e1⟩, e2⟩
      · exact (pn_fell s w (fun W hW => ri_low s hs _ _ v h he (by omega) W hW) hv).mono fun e w' ⟨e1, e2⟩ => ⟨.inr ⟨fun n hn => by have := rd_unique hn.1 he; have := hn.2; omega, e1⟩, e2⟩
    · exact (pn_fell s w (fun W hW => ri_ne s hs _ _ v h he W hW) hv).mono fun e w' ⟨e1, e2⟩ => ⟨.inr ⟨fun n hn => by
        have h3 := rd_atoi (by omega) hn.1
        rw [h] at h3
        injection h3 with h3
        exact he (by rw [h3]; exact hn.1.1), e1⟩, e2⟩
  · exact (pn_fell s w (fun W hW => ri_bad s hs _ _ (fun v hv' => h ⟨v, hv'⟩) W hW) hv).mono fun e w' ⟨e1, e2⟩ => ⟨.inr ⟨fun n hn => h ⟨n, rd_atoi (by omega) hn.1⟩, e1⟩, e2⟩

set_option maxRecDepth 100000 in
set_option maxHeartbeats 400000 in
/-- spec.ParseInt, at every text. -/
theorem spi_any (s : ByteArray) (hs : s.size ≤ maxLen) (w : World) :
    Calls Tryd.prog 25 #[.string s] w (RdEnd 12 s.data.toList w) := by
  have hrd := rd_any s 12 (by omega) (by omega) hs
  go_enter Tryd.func25, Tryd.ntmps25
  go_wp2_with fail
  refine (hrd w).mono ?_
  rintro e w1 ⟨⟨n, hn, rfl⟩ | ⟨hno, rfl⟩, hb⟩
  · have HN := Lib.hid hn
    clear hn hrd
    go_wp2_with fail
    go_ret2
    exact rd_end_yes HN.out hb
  · have HN := Lib.hid hno
    clear hno hrd
    go_wp2_with fail
    go_ret2
    exact rd_end_no HN.out hb

end Go.Proofs.YtflkalgofkpdbaaDoor
/- Plain facts: a text cut at every occurrence of a byte. -/
namespace Go.Proofs.YtflkalgofkpdbaaDoor
open Go.Lib

/-- The pieces between the occurrences of c. -/
def sp (c : UInt8) : List UInt8 → List (List UInt8)
  | [] => [[]]
  | b :: r => if b = c then [] :: sp c r else (match sp c r with | h :: t => (b :: h) :: t | [] => [[b]])
theorem sp_ne (c : UInt8) (l : List UInt8) : sp c l ≠ [] := by
  cases l with
  | nil => simp [sp]
  | cons b r => unfold sp; split <;> simp; split <;> simp
theorem sp_none (c : UInt8) : ∀ a : List UInt8, (∀ x ∈ a, x ≠ c) → sp c a = [a]
  | [], _ => rfl
  | b :: r, h => by
    unfold sp
    rw [if_neg (h b (by simp)), sp_none c r (fun x hx => h x (by simp [hx]))]
theorem sp_first (c : UInt8) (r : List UInt8) : ∀ a : List UInt8, (∀ x ∈ a, x ≠ c) → sp c (a ++ c :: r) = a :: sp c r
  | [], _ => by simp [sp]
  | b :: a, h => by
    have e := sp_first c r a (fun x hx => h x (by simp [hx]))
    show (if b = c then [] :: sp c (a ++ c :: r) else (match sp c (a ++ c :: r) with | h :: t => (b :: h) :: t | [] => [[b]])) = _
    rw [if_neg (h b (by simp)), e]
theorem sp_len_le (c : UInt8) : ∀ l : List UInt8, (sp c l).length ≤ l.length + 1
  | [] => by simp [sp]
  | b :: r => by
    have := sp_len_le c r
    unfold sp
    split
    · simp; omega
    · split
      · rename_i h t e; rw [e] at this; simp at this ⊢; omega
      · simp

theorem indexByte_spec (c : UInt8) : ∀ l : List UInt8, (indexByte l c = -1 ∧ ∀ x ∈ l, x ≠ c) ∨ ∃ i : Nat, indexByte l c = i ∧ i < l.length ∧ (∀ x ∈ l.take i, x ≠ c) ∧ l = l.take i ++ c :: l.drop (i + 1)
  | [] => .inl ⟨rfl, by simp⟩
  | b :: r => by
    by_cases hb : b = c
    · subst hb
      exact .inr ⟨0, by simp [indexByte], by simp, by simp, by simp⟩
    · have hbe : (b == c) = false := by simpa using hb
      rcases indexByte_spec c r with ⟨h1, h2⟩ | ⟨i, h1, h2, h3, h4⟩
      · refine .inl ⟨by simp [indexByte, hbe, h1], ?_⟩
        intro x hx
        rcases List.mem_cons.1 hx with rfl | hx
        · exact hb
        · exact h2 x hx
      · refine .inr ⟨i + 1, ?_, by simpa using h2, ?_, ?_⟩
        · have : (indexByte r c == -1) = false := by rw [beq_eq_false_iff_ne]; omega
          simp only [indexByte, hbe, this]
          simp; omega
        · intro x hx
          rw [List.take_succ_cons] at hx
          rcases List.mem_cons.1 hx with rfl | hx
          · exact hb
          · exact h3 x hx
        · rw [List.take_succ_cons, List.drop_succ_cons, List.cons_append, ← h4]

theorem splitK_sp (c : UInt8) : ∀ (k : Nat) (l : List UInt8), count l [c] = k → splitK [c] 0 k l = sp c l := by
  intro k
  induction k with
  | zero =>
    intro l hc
    rcases indexByte_spec c l with ⟨_, h2⟩ | ⟨i, h1, _, _, _⟩
    · rw [sp_none c l h2]; rfl
    · have := count_hit (s := l) (sub := [c]) (by simp) ((index_one l c).trans h1)
      omega
  | succ k ih =>
    intro l hc
    rcases indexByte_spec c l with ⟨h1, _⟩ | ⟨i, h1, h2, h3, h4⟩
    · have := count_miss (s := l) (sub := [c]) ((index_one l c).trans h1)
      omega
    · have hi := (index_one l c).trans h1
      have hh := count_hit (s := l) (sub := [c]) (by simp) hi
      have hne : ¬ (index l [c] == -1) = true := by rw [hi]; simp
      have hh2 : count (l.drop (i + 1)) [c] = k := by rw [List.length_singleton] at hh; omega
      have e2 := ih (l.drop (i + 1)) hh2
      conv => rhs; rw [h4]
      rw [sp_first c _ _ h3, splitK, if_neg hne, hi]
      simp only [Int.toNat_natCast, Nat.add_zero, List.length_singleton]
      rw [e2]

/-- The pieces as strings. -/
def parts (c : UInt8) (l : List UInt8) : List ByteArray := (sp c l).map fun x => ⟨x.toArray⟩
theorem ba_eq {a : ByteArray} {l : List UInt8} (h : a.data.toList = l) : a = ⟨l.toArray⟩ := by
  subst h; cases a; simp
theorem splitB_parts (c : UInt8) (s : ByteArray) : splitB ⟨#[c]⟩ 0 (countB s ⟨#[c]⟩) s = parts c s.data.toList := by
  have h1 := splitB_data ⟨#[c]⟩ 0 (countB s ⟨#[c]⟩) s
  have h2 : splitK [c] 0 (countB s ⟨#[c]⟩) s.data.toList = sp c s.data.toList := splitK_sp c _ _ rfl
  rw [show (⟨#[c]⟩ : ByteArray).data.toList = [c] from rfl, h2] at h1
  unfold parts
  rw [← h1, List.map_map]
  conv => lhs; rw [← List.map_id (splitB _ _ _ _)]
  apply List.map_congr_left
  intro a _
  exact ba_eq rfl
theorem parts_len (c : UInt8) (l : List UInt8) : (parts c l).length = (sp c l).length := by simp [parts]
theorem countB_parts (c : UInt8) (s : ByteArray) : countB s ⟨#[c]⟩ + 1 = (parts c s.data.toList).length := by
  rw [← splitB_parts, splitB_all ⟨#[c]⟩ (Nat.le_refl 1) 0 _ s rfl]

/-- How far the loop has come: D is done, the rest begins at f, i is next. -/
def SpInv (c : UInt8) (l : List UInt8) (D : List ByteArray) (f i : Nat) : Prop :=
  (f ≤ i ∧ i ≤ l.length ∧ sp c l = D.map (·.data.toList) ++ sp c (l.drop f) ∧ ∀ x ∈ (l.drop f).take (i - f), x ≠ c) ∨ (i = l.length + 1 ∧ sp c l = D.map (·.data.toList))
theorem spInv_start (c : UInt8) (l : List UInt8) : SpInv c l [] 0 0 := .inl ⟨Nat.le_refl _, Nat.zero_le _, by simp, by simp⟩
theorem spInv_skip {c : UInt8} {l : List UInt8} {D : List ByteArray} {f i : Nat} (h : SpInv c l D f i) (hi : i < l.length) (hc : l[i] ≠ c) : SpInv c l D f (i + 1) := by
  rcases h with ⟨h1, h2, h3, h4⟩ | ⟨h1, _⟩
  · refine .inl ⟨by omega, by omega, h3, ?_⟩
    rw [show i + 1 - f = (i - f) + 1 from by omega, List.take_add_one, List.getElem?_drop, show f + (i - f) = i from by omega, List.getElem?_eq_getElem hi]
    intro x hx
    rw [List.mem_append] at hx
    rcases hx with hx | hx
    · exact h4 x hx
    · simp at hx; subst hx; exact hc
  · omega
theorem spInv_cut {c : UInt8} {l : List UInt8} {D : List ByteArray} {f i : Nat} (h : SpInv c l D f i) (hi : i < l.length) (hc : l[i] = c) (p : ByteArray) (hp : p.data.toList = (l.drop f).take (i - f)) : SpInv c l (D ++ [p]) (i + 1) (i + 1) := by
  rcases h with ⟨h1, h2, h3, h4⟩ | ⟨h1, _⟩
  · refine .inl ⟨Nat.le_refl _, by omega, ?_, by simp⟩
    have e : l.drop f = (l.drop f).take (i - f) ++ c :: l.drop (i + 1) := by
      conv => lhs; rw [← List.take_append_drop (i - f) (l.drop f)]
      rw [List.drop_drop, show f + (i - f) = i from by omega, List.drop_eq_getElem_cons hi, hc]
    rw [h3, List.map_append, List.append_assoc]
    congr 1
    conv => lhs; rw [e]
    rw [sp_first c _ _ h4, List.map_cons, List.map_nil, hp]; rfl
  · omega
theorem spInv_last {c : UInt8} {l : List UInt8} {D : List ByteArray} {f : Nat} (h : SpInv c l D f l.length) (p : ByteArray) (hp : p.data.toList = (l.drop f).take (l.length - f)) : SpInv c l (D ++ [p]) (l.length + 1) (l.length + 1) := by
  rcases h with ⟨h1, h2, h3, h4⟩ | ⟨h1, _⟩
  · refine .inr ⟨rfl, ?_⟩
    have e : (l.drop f).take (l.length - f) = l.drop f := List.take_of_length_le (by rw [List.length_drop]; omega)
    rw [e] at h4 hp
    rw [h3, sp_none c _ h4, List.map_append, List.map_cons, List.map_nil, hp]
  · omega
theorem spInv_end {c : UInt8} {l : List UInt8} {D : List ByteArray} {f i : Nat} (h : SpInv c l D f i) (hi : l.length < i) : D = parts c l := by
  rcases h with ⟨_, h2, _⟩ | ⟨_, h2⟩
  · omega
  · unfold parts
    rw [h2, List.map_map]
    conv => lhs; rw [← List.map_id D]
    apply List.map_congr_left
    intro a _
    exact ba_eq rfl
theorem spInv_le {c : UInt8} {l : List UInt8} {D : List ByteArray} {f i : Nat} (h : SpInv c l D f i) : D.length ≤ l.length + 1 ∧ (i ≤ l.length → f ≤ i) := by
  have hl := sp_len_le c l
  rcases h with ⟨h1, h2, h3, _⟩ | ⟨h1, h2⟩
  · rw [h3, List.length_append, List.length_map] at hl
    exact ⟨by omega, fun _ => h1⟩
  · rw [h2, List.length_map] at hl
    exact ⟨hl, fun h => by omega⟩
end Go.Proofs.YtflkalgofkpdbaaDoor
/- Facts that several texts share: an empty row, a string's type, append of one string. -/
namespace Go.Proofs.YtflkalgofkpdbaaDoor
open Go.RowKit Go.Lib

theorem owns_empty {w : World} {base : Nat} {e : TypeId} (hb : base ≤ w.heap.size) : (w.alloc (.cells #[] e)).ownsRow base e 1 (.slice (some ⟨w.heap.size, 0, none⟩) 0 0) 0 [] :=
  ⟨rfl, .inr ⟨w.heap.size, 0, #[], rfl, hb, heap_alloc_new w _, Nat.le_refl _, by unfold maxLen; omega, rfl, rfl⟩⟩
theorem info_str : (Tryd.prog.info? 9).map (fun i => (i.zero, i.size, i.bytes)) = some (some (.string ⟨#[]⟩), 1, 16) := by kernel_rfl

/-- append(out, s) at a plain list of operations: strings. -/
theorem list_app_str {ops : Array Oper} {rest : List Oper} {o : Oper} {a : Act} {w : World} {Q : Exit → Act → World → Prop} (hgd : o.guard = none) (s x : Operand)
    (ho : o.op = .call { callee := .builtin .append, args := #[s, x], argTypes := #[45, 45] })
    (base : Nat) (v : Value) (n : Nat) (xs : List ByteArray) (z : ByteArray) (hs : a.eval s = v) (hown : w.ownsRow base 9 1 v n (strVals xs))
    (H : Nat) (hx : a.eval x = .slice (some ⟨H, 0, none⟩) 1 1) (hnew : w.heap[H]? = some (.cells #[.string z] 9 (0, 0)))
    (hn : n ≤ 1099511627776) (hbase : base ≤ w.heap.size)
    (h : ∀ v' w', w'.ownsRow base 9 1 v' (n + 1) (strVals (xs ++ [z])) → Below base w w' → wpList Tryd.prog ops Q rest (a.put o.dst v') w') :
    wpList Tryd.prog ops Q (o :: rest) a w := by
  obtain ⟨i0, hi, hz0, hz1, hz2⟩ := info_parts info_str
  refine wpList_append_lies w hgd s x 45 ho base 9 i0 _ 1 16 Tryd.underlying45 hi hz0 hz1 hz2 rfl (by omega) v n _ hs hown ⟨H, 0, none⟩ 1 1 [.string z] hx rfl (World.news_of_block (cs := #[.string z]) hnew) (by simp [Value.oneCell']) (by omega) (by unfold maxLen; omega) (by omega) hbase w.heap.size rfl ?_
  intro g cap w' h1 h2 h3 h4
  refine h _ w' (by simpa [strVals] using h1) ((Below.refl base w).grown h2 hbase ?_)
  intro k hk
  exact (hown.lt k hk).1
end Go.Proofs.YtflkalgofkpdbaaDoor
/- See the module that is imported. -/
/- spec.SplitByte and impl.SplitByte: the pieces of a text. -/
namespace Go.Proofs.YtflkalgofkpdbaaDoor
open Go.RowKit Go.Lib

theorem extract_list (s : ByteArray) (f i : Nat) : (s.extract f i).data.toList = (s.data.toList.drop f).take (i - f) := by
  rw [ByteArray.data_extract, Array.toList_extract, List.extract_eq_take_drop]

set_option maxRecDepth 100000 in
set_option maxHeartbeats 800000 in
/-- spec.SplitByte. -/
theorem ssplit (s : ByteArray) (c : UInt8) (hs : s.size ≤ 1048576) (w : World) :
    Calls Tryd.prog 24 #[.string s, .int .u8 c.toNat] w fun e w' => (∃ v, e = .returned v ∧ w'.ownsRow w.heap.size 9 1 v (parts c s.data.toList).length (strVals (parts c s.data.toList))) ∧ Below w.heap.size w w' := by
  obtain ⟨i0, hi, hz0, hz1, hz2⟩ := info_parts info_str
  have HI := Lib.hid (And.intro hi (And.intro hz0 (And.intro hz1 hz2)))
  have HLn := Lib.hid (list_len s)
  clear hi hz0 hz1 hz2
  go_enter Tryd.func24, Tryd.ntmps24
  go_wp2
  go_loopw [5, 6, 7] (fun o f i wr => ∃ (D : List ByteArray) (m k : Nat), k ≤ s.size + 1 ∧ i = .int .i64 k ∧ f = .int .i64 m ∧ SpInv c s.data.toList D m k ∧ wr.ownsRow w.heap.size 9 1 o D.length (strVals D) ∧ Below w.heap.size w wr) (fun _ _ i _ => s.size + 1 - (RowKit.intOf i).toNat)
  case atStart => exact ⟨[], 0, 0, Nat.zero_le _, rfl, rfl, spInv_start _ _, owns_empty (Nat.le_refl _), (Below.refl _ _).alloc (Nat.le_refl _) _⟩
  case round =>
    obtain ⟨D, m, k, hk, rfl, rfl, hinv, how, hbr⟩ := hrel
    obtain ⟨hD, hmk⟩ := spInv_le hinv
    rw [HLn.out] at hD hmk
    have HW := Lib.hid how
    have HB := Lib.hid hbr
    have HN := Lib.hid hinv
    clear how hbr hinv
    by_cases hle : k ≤ s.size
    · have hmk' := hmk hle
      clear hmk
      by_cases hlt : k < s.size
      · have hke : ((k : Int) == (s.size : Int)) = false := by rw [beq_eq_false_iff_ne]; omega
        by_cases hc : s[k] = c
        · have hcb : ((s[k].toNat : Int) == (c.toNat : Int)) = true := by rw [hc]; simp
          have HC := Lib.hid hc
          clear hc
          have C1 := Lib.hid (show D.length + 1 ≤ maxLen by unfold maxLen; omega)
          have C2 := Lib.hid (show (D.length + 1) * 16 ≤ 140737488355328 by omega)
          have C3 := Lib.hid (show w.heap.size ≤ (wr.alloc (.cells #[.string (s.extract m k)] 9)).heap.size by rw [World.size_alloc]; exact Nat.le_succ_of_le HB.out.size)
          have O1 := Lib.hid (show ∀ u ∈ [Value.string (s.extract m k)], u.oneCell' = true by simp [Value.oneCell'])
          go_wp2_with (at_builtin; refine wpList_append_own _ rfl (.tmp 26) (.tmp 31) 45 rfl w.heap.size 9 i0 (.string ⟨#[]⟩) 1 16 Tryd.underlying45 HI.out.1 HI.out.2.1 HI.out.2.2.1 HI.out.2.2.2 rfl (Nat.lt_succ_self 0) _ _ _ rfl (HW.out.alloc _) ⟨wr.heap.size, 0, none⟩ 1 1 [.string (s.extract m k)] rfl rfl (cell_one_new _ _ _) O1.out C1.out C2.out C3.out ?_; intro v1 w1 hown1 hgrow1 _; have HW1 := Lib.hid hown1; have HB1 := Lib.hid ((HB.out.alloc HB.out.size _).grown hgrow1 C3.out (fun q hq => (HW.out.lt q hq).1)); clear hown1 hgrow1)
          have hw := HW1.out
          have hp := spInv_cut HN.out (by rw [HLn.out]; exact hlt) HC.out (s.extract m k) (extract_list s m k)
          refine ⟨⟨D ++ [s.extract m k], k + 1, k + 1, by omega, by go_num, by go_num, hp, ?_, HB1.out⟩, by simp [RowKit.intOf]; omega⟩
          simpa [strVals] using hw
        · have hcb : ((s[k].toNat : Int) == (c.toNat : Int)) = false := by
            rw [beq_eq_false_iff_ne]; intro e
            exact hc (UInt8.toNat_inj.1 (by omega))
          have HC := Lib.hid hc
          clear hc
          go_wp2
          exact ⟨⟨D, m, k + 1, by omega, by go_num, rfl, spInv_skip HN.out (by rw [HLn.out]; exact hlt) HC.out, HW.out, HB.out⟩, by simp [RowKit.intOf]; omega⟩
      · obtain rfl : k = s.size := by omega
        have C1 := Lib.hid (show D.length + 1 ≤ maxLen by unfold maxLen; omega)
        have C2 := Lib.hid (show (D.length + 1) * 16 ≤ 140737488355328 by omega)
        have C3 := Lib.hid (show w.heap.size ≤ (wr.alloc (.cells #[.string (s.extract m s.size)] 9)).heap.size by rw [World.size_alloc]; exact Nat.le_succ_of_le HB.out.size)
        have O1 := Lib.hid (show ∀ u ∈ [Value.string (s.extract m s.size)], u.oneCell' = true by simp [Value.oneCell'])
        go_wp2_with (at_builtin; refine wpList_append_own _ rfl (.tmp 26) (.tmp 31) 45 rfl w.heap.size 9 i0 (.string ⟨#[]⟩) 1 16 Tryd.underlying45 HI.out.1 HI.out.2.1 HI.out.2.2.1 HI.out.2.2.2 rfl (Nat.lt_succ_self 0) _ _ _ rfl (HW.out.alloc _) ⟨wr.heap.size, 0, none⟩ 1 1 [.string (s.extract m s.size)] rfl rfl (cell_one_new _ _ _) O1.out C1.out C2.out C3.out ?_; intro v1 w1 hown1 hgrow1 _; have HW1 := Lib.hid hown1; have HB1 := Lib.hid ((HB.out.alloc HB.out.size _).grown hgrow1 C3.out (fun q hq => (HW.out.lt q hq).1)); clear hown1 hgrow1)
        have hw := HW1.out
        have hn2 := HN.out
        rw [← HLn.out] at hn2
        have hp := spInv_last hn2 (s.extract m s.size) (by rw [extract_list, HLn.out])
        rw [HLn.out] at hp
        refine ⟨⟨D ++ [s.extract m s.size], s.size + 1, s.size + 1, by omega, by go_num, by go_num, hp, ?_, HB1.out⟩, by simp [RowKit.intOf]⟩
        simpa [strVals] using hw
    · have hgt : s.size < k := by omega
      have HE := Lib.hid (spInv_end HN.out (by rw [HLn.out]; exact hgt))
      clear hmk
      go_wp2
      go_ret
      have hw := HW.out
      have he := HE.out
      subst he
      exact ⟨⟨_, rfl, hw⟩, HB.out⟩

/-- The library's variable that the search reads holds some int. -/
def HasMax (w : World) : Prop := ∃ m : Int, w.cell? ⟨1, 0, none⟩ = some (.int .i64 m)
theorem HasMax.below {w w' : World} (h : HasMax w) (hb : Below w.heap.size w w') : HasMax w' := by
  obtain ⟨m, h⟩ := h
  exact ⟨m, by rw [hb.cell (p := ⟨_, 0, none⟩) (cell_block_lt h)]; exact h⟩

set_option maxRecDepth 100000 in
set_option maxHeartbeats 800000 in
/-- impl.SplitByte. -/
theorem isplit (s : ByteArray) (c : UInt8) (hs : s.size ≤ 1048576) (w : World) (hx : HasMax w) :
    Calls Tryd.prog 27 #[.string s, .int .u8 c.toNat] w fun e w' => (∃ g, e = .returned (.slice (some ⟨g, 0, none⟩) (parts c s.data.toList).length (parts c s.data.toList).length) ∧
      w'.ownsRow w.heap.size 9 1 (.slice (some ⟨g, 0, none⟩) (parts c s.data.toList).length (parts c s.data.toList).length) (parts c s.data.toList).length (strVals (parts c s.data.toList))) ∧ Below w.heap.size w w' := by
  have hcv := run_one_byte (P := Tryd.prog) 60 9 5 5 Tryd.underlying60 Tryd.underlying5 Tryd.underlying9 (c.toNat : Int)
  have e1 : UInt8.ofNat ((c.toNat : Int)).toNat = c := by rw [Int.toNat_natCast]; exact UInt8.ofNat_toNat
  rw [e1] at hcv
  have call : ∀ W, HasMax W → Calls Tryd.prog 44 #[.string s, .string ⟨#[c]⟩] W fun e w' => (∃ g, e = .returned (.slice (some ⟨g, 0, none⟩) (parts c s.data.toList).length (parts c s.data.toList).length) ∧ W.heap.size ≤ g ∧
      w'.ownsRow W.heap.size 9 1 (.slice (some ⟨g, 0, none⟩) (parts c s.data.toList).length (parts c s.data.toList).length) (parts c s.data.toList).length (strVals (parts c s.data.toList))) ∧ Below W.heap.size W w' := by
    intro W hW
    obtain ⟨m, hm⟩ := hW
    refine (Tryd.strings_Split s ⟨#[c]⟩ m W (by omega) hm (Nat.le_refl 1)).mono fun e w' ⟨he, hw⟩ => ?_
    rw [countB_parts] at he
    rw [splitB_parts] at hw
    subst hw
    have hmx : (parts c s.data.toList).length ≤ maxLen := by
      rw [parts_len]
      have := sp_len_le c s.data.toList
      rw [list_len] at this
      unfold maxLen; omega
    exact ⟨⟨W.heap.size, he, Nat.le_refl _, by rw [strVals_len, Nat.mul_one], .inr ⟨W.heap.size, _, _, rfl, Nat.le_refl _, heap_alloc_new W _, Nat.le_refl _, hmx, by simp, by simp [strVals, List.take_of_length_le]⟩⟩, (Below.refl _ _).alloc (Nat.le_refl _) _⟩
  have HC := Lib.hid (call (w.alloc (.cells #[.int .u8 c.toNat] 5)) (hx.below ((Below.refl _ _).alloc (Nat.le_refl _) _)))
  clear call hx e1
  go_enter Tryd.func27, Tryd.ntmps27
  go_wp2_with fail
  refine HC.out.mono ?_
  rintro e w' ⟨⟨g, rfl, hg, how⟩, hb⟩
  have HW := Lib.hid how
  have HB := Lib.hid hb
  clear how hb
  go_wp2_with fail
  go_ret
  rw [World.size_alloc] at hg
  refine ⟨⟨g, rfl, ?_⟩, (((Below.refl _ _).alloc (Nat.le_refl _) _).trans (HB.out.mono (by rw [World.size_alloc]; omega)))⟩
  exact (HW.out.mono (by rw [World.size_alloc]; omega))
end Go.Proofs.YtflkalgofkpdbaaDoor
/- Vectors out of texts: the model's and the program's ParseVector. -/
namespace Go.Proofs.YtflkalgofkpdbaaDoor
open Go.RowKit Go.Lib

/-- The integer of at most 12 digits whose numeral the text is, and whether there is one. -/
def rdI (l : List UInt8) : Int × Bool := match atoiAll l with
  | .ok n => if l = itoa n ∧ n.natAbs < 10 ^ 12 then (n, true) else (0, false)
  | _ => (0, false)
theorem rdI_yes {l : List UInt8} {n : Int} (h : Rd 12 l n) : rdI l = (n, true) := by
  unfold rdI
  rw [rd_atoi (by omega) h]
  simp only [if_pos (show l = itoa n ∧ n.natAbs < 10 ^ 12 from h)]
theorem rdI_no {l : List UInt8} (h : ∀ n, ¬ Rd 12 l n) : rdI l = (0, false) := by
  unfold rdI
  split
  · rename_i n hn
    exact if_neg (fun hh => h n hh)
  · rfl
def Read (w : World) (r : Int × Bool) (e : Ending) (w' : World) : Prop := e = .returned (.tuple #[.int .i64 r.1, .bool r.2]) ∧ Below w.heap.size w w'
theorem read_of {l : List UInt8} {w w' : World} {e : Ending} (h : RdEnd 12 l w e w') : Read w (rdI l) e w' := by
  obtain ⟨⟨n, hn, he⟩ | ⟨hn, he⟩, hb⟩ := h
  · exact ⟨by rw [rdI_yes hn]; exact he, hb⟩
  · exact ⟨by rw [rdI_no hn]; exact he, hb⟩
theorem s_readI (s : ByteArray) (hs : s.size ≤ maxLen) (w : World) : Calls Tryd.prog 25 #[.string s] w (Read w (rdI s.data.toList)) :=
  (spi_any s hs w).mono fun _ _ h => read_of h
theorem i_readI (s : ByteArray) (hs : s.size ≤ 1048576) (w : World) (hv : Vars w) : Calls Tryd.prog 48 #[.string s] w (Read w (rdI s.data.toList)) :=
  (pi_any s hs w hv).mono fun _ _ h => read_of h
theorem rdI_bd (l : List UInt8) : -999999999999 ≤ (rdI l).1 ∧ (rdI l).1 ≤ 999999999999 := by
  unfold rdI
  split
  · split
    · rename_i h; have := h.2; constructor <;> (simp only; omega)
    · simp
  · simp

def rdS (s : ByteArray) : Int × Bool := rdI s.data.toList
def fsts (ps : List ByteArray) : List Int := ps.map fun s => (rdS s).1
def oks (ps : List ByteArray) : Bool := ps.all fun s => (rdS s).2
theorem fsts_len (ps : List ByteArray) : (fsts ps).length = ps.length := by simp [fsts]
theorem fsts_take {ps : List ByteArray} {k : Nat} (h : k < ps.length) : fsts (ps.take (k + 1)) = fsts (ps.take k) ++ [(rdS ps[k]).1] := by
  unfold fsts
  rw [List.take_succ_eq_append_getElem h, List.map_append]; rfl
theorem oks_take {ps : List ByteArray} {k : Nat} (h : k < ps.length) (h1 : oks (ps.take k) = true) (h2 : (rdS ps[k]).2 = true) : oks (ps.take (k + 1)) = true := by
  rw [List.take_succ_eq_append_getElem h]
  unfold oks at *
  rw [List.all_append, h1, List.all_cons, h2]; rfl
theorem oks_not {ps : List ByteArray} {k : Nat} (h : k < ps.length) (h2 : (rdS ps[k]).2 = false) : oks ps = false := by
  unfold oks
  rw [List.all_eq_false]
  exact ⟨ps[k], List.getElem_mem h, by simp [h2]⟩
def parsP (ps : List ByteArray) : List Int × Bool := if oks ps = true then vecR (fsts ps) else ([], false)
/-- What ParseVector answers. -/
def parsV (l : List UInt8) : List Int × Bool := parsP (parts 44 l)
theorem parts_size {c : UInt8} : ∀ (l : List UInt8), ∀ s ∈ parts c l, s.size ≤ l.length := by
  have key : ∀ l : List UInt8, ∀ x ∈ sp c l, x.length ≤ l.length := by
    intro l
    induction l with
    | nil => intro x hx; simp [sp] at hx; subst hx; simp
    | cons b r ih =>
      intro x hx
      unfold sp at hx
      split at hx
      · rcases List.mem_cons.1 hx with rfl | hx
        · simp
        · have := ih x hx; simp; omega
      · split at hx
        · rename_i h t e
          rcases List.mem_cons.1 hx with rfl | hx
          · have := ih h (by rw [e]; simp); simpa using this
          · have := ih x (by rw [e]; simp [hx]); simp; omega
        · simp at hx; subst hx; simp
  intro l s hs
  unfold parts at hs
  obtain ⟨x, hx, rfl⟩ := List.mem_map.1 hs
  have := key l x hx
  show x.toArray.size ≤ _
  simpa using this
theorem parts_some (c : UInt8) (l : List UInt8) : 1 ≤ (parts c l).length := by
  rw [parts_len]
  have := sp_ne c l
  cases h : sp c l with
  | nil => exact absurd h this
  | cons x r => simp
theorem parsV_len (l : List UInt8) : (parsV l).1.length ≤ 3 := by
  unfold parsV parsP vecR
  split
  · split
    · rename_i h; exact (isV_t h).2.1
    · simp
  · simp

set_option maxRecDepth 100000 in
set_option maxHeartbeats 800000 in
theorem s_pars (s : ByteArray) (hs : s.size ≤ 1048576) (w : World) :
    Calls Tryd.prog 26 #[.string s] w (Got w (parsV s.data.toList)) := by
  have HS := Lib.hid (ssplit s 44 hs)
  have hps := parts_size (c := 44) s.data.toList
  have hpn : (parts 44 s.data.toList).length ≤ 1048577 := by
    rw [parts_len]
    have := sp_len_le 44 s.data.toList
    rw [list_len] at this; omega
  unfold parsV
  rw [list_len] at hps
  generalize parts 44 s.data.toList = ps at HS hps hpn ⊢
  have HP := Lib.hid hps
  clear hps
  have B0 := Lib.hid (Below.refl w.heap.size w)
  go_enter Tryd.func26, Tryd.ntmps26
  go_wp2_with fail
  refine (HS.out _).mono ?_
  rintro e w1 ⟨⟨v1, rfl, ho1⟩, hb1⟩
  have B1 := Lib.hid ((B0.out.alloc (Nat.le_refl _) _).trans (hb1.mono (by simp)))
  have hown := (OwnV.of_owns ho1)
  have hsl := hown.sl
  obtain ⟨a, c, rfl, hm, _⟩ := hsl.shape
  rw [strVals_len] at hown ⊢
  have HOW := Lib.hid (hown.mono (lo' := w.heap.size + 1) (by simp) (Nat.le_refl _))
  have HE := Lib.hid (owns_below (owns_empty (e := 3) (Nat.le_refl w.heap.size)) hb1)
  have hsz1 : w.heap.size < w1.heap.size := by have := hb1.size; simp at this; omega
  clear ho1 hb1 hsl hown hm
  go_wp2_with fail
  go_loopw [4, 6] (fun o i wr => ∃ (k g cap : Nat), k ≤ ps.length ∧ i = .int .i64 k ∧ o = .slice (some ⟨g, 0, none⟩) k cap ∧ (g = w.heap.size ∨ w1.heap.size ≤ g) ∧ wr.ownsRow w.heap.size 3 1 o k (intVals (fsts (ps.take k))) ∧ oks (ps.take k) = true ∧ Below w.heap.size w wr ∧ w1.heap.size ≤ wr.heap.size ∧ Mid (w.heap.size + 1) w1.heap.size w1 wr) (fun _ i _ => ps.length - (RowKit.intOf i).toNat)
  case atStart => exact ⟨0, w.heap.size, 0, Nat.zero_le _, rfl, rfl, .inl rfl, HE.out, rfl, B1.out, Nat.le_refl _, Mid.refl _ _ _⟩
  case round =>
    obtain ⟨k, g, cap, hk, rfl, rfl, hg, how, hok, hbr, hsz, hmid⟩ := hrel
    have HW := Lib.hid how
    have HB := Lib.hid hbr
    have HM := Lib.hid hmid
    have HK := Lib.hid hok
    have HP2 := Lib.hid (HOW.out.mid hmid)
    have HG := Lib.hid hg
    clear how hbr hmid hok hg
    by_cases hlt : k < ps.length
    · obtain ⟨a', c', e', _, hopen⟩ := HP2.out.sl.shape
      rw [strVals_len] at hopen
      obtain ⟨b, off, rfl, hc, hlt2, hx⟩ := hopen (by omega)
      simp only [Value.slice.injEq] at e'
      obtain ⟨rfl, hee, rfl⟩ := e'
      clear hee
      have hcell := hx k _ (strVals_get ps k hlt)
      have hsz2 : ps[k].size ≤ s.size := HP.out _ (List.getElem_mem hlt)
      clear hx hopen
      have FT := Lib.hid (fsts_take hlt)
      have HR := Lib.hid (s_readI ps[k] (by unfold maxLen; omega))
      generalize hq : rdI ps[k].data.toList = q at HR
      have HQ := Lib.hid (show rdS ps[k] = q from hq)
      clear hq
      obtain ⟨qn, qb⟩ := q
      cases qb
      · have HF := Lib.hid (oks_not hlt (by rw [HQ.out]))
        go_wp2_with fail
        refine (HR.out _).mono ?_
        rintro e w2 ⟨rfl, hb2⟩
        have HB2 := Lib.hid (HB.out.trans (hb2.mono HB.out.size))
        clear hb2
        go_wp2_with fail
        go_ret2
        have e1 : parsP ps = ([], false) := if_neg (by rw [HF.out]; simp)
        rw [e1]
        exact ⟨⟨_, rfl, own_empty HB2.out.size⟩, HB2.out.alloc HB2.out.size _⟩
      · have HT := Lib.hid (oks_take hlt HK.out (by rw [HQ.out]))
        go_wp2_with fail
        refine (HR.out _).mono ?_
        rintro e w2 ⟨rfl, hb2⟩
        have HB2 := Lib.hid (HB.out.trans (hb2.mono HB.out.size))
        have HW2 := Lib.hid (owns_below HW.out hb2)
        have HM2 := Lib.hid (HM.out.trans (Mid.of_below hb2 hsz))
        have hsz3 : w1.heap.size ≤ w2.heap.size := Nat.le_trans hsz hb2.size
        clear hb2
        have hk' : k ≤ 1099511627776 := by omega
        have C3 := Lib.hid (show w.heap.size ≤ (w2.alloc (.cells #[.int .i64 qn] 3)).heap.size by rw [World.size_alloc]; exact Nat.le_succ_of_le HB2.out.size)
        go_wp2_with (at_builtin; refine list_app_int2 rfl _ _ rfl w.heap.size _ k (fsts (ps.take k)) _ rfl (HW2.out.alloc _) w2.heap.size rfl (heap_alloc_new w2 _) hk' C3.out ?_; intro g3 cap3 w3 hown3 hgrow3 hat3; have HO3 := Lib.hid hown3; have HG3 := Lib.hid hgrow3; have HA3 := Lib.hid hat3; clear hown3 hgrow3 hat3)
        have hgr := HG3.out
        have hne : ∀ q, (Value.slice (some ⟨g, 0, none⟩) k cap).ownBlock = some q → q = g := fun q h => by simpa [Value.ownBlock] using h.symm
        have hg := HG.out
        refine ⟨⟨k + 1, g3, cap3, by omega, by go_num, rfl, ?_, ?_, HT.out, (HB2.out.alloc HB2.out.size _).grown hgr C3.out (fun q hq => by have := hne q hq; omega), ?_, ?_⟩, by simp [RowKit.intOf]; omega⟩
        · rcases HA3.out with h | h
          · have := hne g3 h; omega
          · right; rw [h, World.size_alloc]; omega
        · rw [FT.out, HQ.out]; exact HO3.out
        · exact Nat.le_trans hsz3 (by have := hgr.size; simp at this; omega)
        · exact HM2.out.trans ((Mid.of_below ((Below.refl w2.heap.size w2).alloc (Nat.le_refl _) _) hsz3).trans (Mid.grown hgr (by simp; omega) (fun q hq => by have := hne q hq; omega)))
    · obtain rfl : k = ps.length := by omega
      have hk2 := HK.out
      have hw2 := HW.out
      rw [List.take_length] at hk2 hw2
      have HK2 := Lib.hid (show parsP ps = vecR (fsts ps) from if_pos hk2)
      have HW2 := Lib.hid (OwnV.of_owns hw2)
      clear hk2 hw2
      by_cases hv : isV (fsts ps) = true
      · have E := Lib.hid hv
        have EV := Lib.hid (show vecR (fsts ps) = (fsts ps, true) from if_pos hv)
        clear hv
        go_wp2_with fail
        refine (s_isv (fsts ps) _ _ HW2.out.sl).mono ?_
        rintro e w2 ⟨rfl, hb2⟩
        rw [E.out]
        have HB2 := Lib.hid (HB.out.trans (hb2.mono HB.out.size))
        have HW3 := Lib.hid ((HW2.out.below hb2).mono (Nat.le_refl _) hb2.size)
        clear hb2
        go_wp2_with fail
        go_ret2
        rw [HK2.out, EV.out]
        exact ⟨⟨_, rfl, HW3.out⟩, HB2.out⟩
      · have E := Lib.hid (bool_f hv)
        have EV := Lib.hid (show vecR (fsts ps) = ([], false) from if_neg hv)
        clear hv
        go_wp2_with fail
        refine (s_isv (fsts ps) _ _ HW2.out.sl).mono ?_
        rintro e w2 ⟨rfl, hb2⟩
        rw [E.out]
        have HB2 := Lib.hid (HB.out.trans (hb2.mono HB.out.size))
        clear hb2
        go_wp2_with fail
        go_ret2
        rw [HK2.out, EV.out]
        exact ⟨⟨_, rfl, own_empty HB2.out.size⟩, HB2.out.alloc HB2.out.size _⟩

/-- Three places, filled from the left. -/
def arr3 (l : List Int) : List Int := l ++ List.replicate (3 - l.length) 0
theorem arr3_len {l : List Int} (h : l.length ≤ 3) : (arr3 l).length = 3 := by unfold arr3; rw [List.length_append, List.length_replicate]; omega
theorem arr3_step {l : List Int} (q : Int) (h : l.length < 3) : (intVals (arr3 l)).set l.length (.int .i64 q) = intVals (arr3 (l ++ [q])) := by
  unfold arr3
  have e : 3 - l.length = (3 - (l ++ [q]).length) + 1 := by rw [List.length_append]; simp; omega
  rw [e, List.replicate_succ]
  simp [intVals]
theorem arr3_pad (l : List Int) (h1 : 1 ≤ l.length) (h2 : l.length ≤ 3) : ∃ x y z : Int, arr3 l = [x, y, z] ∧ [x, y, z].take l.length = l := by
  match l, h1, h2 with
  | [x], _, _ => exact ⟨x, 0, 0, rfl, rfl⟩
  | [x, y], _, _ => exact ⟨x, y, 0, rfl, rfl⟩
  | [x, y, z], _, _ => exact ⟨x, y, z, rfl, rfl⟩
theorem parsP_many {ps : List ByteArray} (h : 3 < ps.length) : parsP ps = ([], false) := by
  unfold parsP vecR
  split
  · rw [if_neg]
    rw [isV_len (by rw [fsts_len]; omega)]; simp
  · rfl
theorem parsP_not {ps : List ByteArray} (h : oks ps = false) : parsP ps = ([], false) := if_neg (by rw [h]; simp)
theorem arr_cell {w : World} {p : Nat} {xs : List Int} {T : TypeId} (h : w.heap[p]? = some (.cells (intVals xs).toArray T (0, 0))) (k : Nat) (hk : k < xs.length) : w.cell? ⟨p, k, none⟩ = some (.int .i64 xs[k]) := by
  rw [cell_of_row w p k _ _ _ h]
  simp [intVals, hk]

set_option maxRecDepth 100000 in
set_option maxHeartbeats 800000 in
theorem i_pars (s : ByteArray) (hs : s.size ≤ 1048576) (w : World) (hv : Vars w) (hx : HasMax w) :
    Calls Tryd.prog 47 #[.string s] w (Got w (parsV s.data.toList)) := by
  have HS := Lib.hid (isplit s 44 hs w hx)
  have hps := parts_size (c := 44) s.data.toList
  have hp1 := parts_some 44 s.data.toList
  unfold parsV
  rw [list_len] at hps
  generalize parts 44 s.data.toList = ps at HS hps hp1 ⊢
  have HP := Lib.hid hps
  have HV := Lib.hid hv
  clear hps hv hx
  by_cases hmany : 3 < ps.length
  · have HR := Lib.hid (parsP_many hmany)
    go_enter Tryd.func47, Tryd.ntmps47
    go_wp2_with fail
    refine HS.out.mono ?_
    rintro e w1 ⟨⟨g, rfl, ho1⟩, hb1⟩
    clear ho1
    go_wp2_with fail
    go_ret2
    rw [HR.out]
    exact ⟨⟨_, rfl, OwnV.nil⟩, hb1⟩
  · have hfew : ps.length ≤ 3 := by omega
    clear hmany
    go_enter Tryd.func47, Tryd.ntmps47
    go_wp2_with fail
    refine HS.out.mono ?_
    rintro e w1 ⟨⟨g0, rfl, ho1⟩, hb1⟩
    have B1 := Lib.hid hb1
    have HP1 := Lib.hid (Sl.of_owns ho1)
    clear ho1 hb1
    go_wp2_with fail
    go_loopw [17] (fun i wr => ∃ (k : Nat), k ≤ ps.length ∧ i = .int .i64 k ∧ wr.heap[w1.heap.size]? = some (.cells (intVals (arr3 (fsts (ps.take k)))).toArray 74 (0, 0)) ∧ oks (ps.take k) = true ∧ Below w1.heap.size w1 wr) (fun i _ => ps.length - (RowKit.intOf i).toNat)
    case atStart => exact ⟨0, Nat.zero_le _, rfl, heap_alloc_new w1 _, rfl, (Below.refl _ _).alloc (Nat.le_refl _) _⟩
    case round =>
      obtain ⟨k, hk, rfl, harr, hok, hbr⟩ := hrel
      have HA := Lib.hid harr
      have HB := Lib.hid hbr
      have HK := Lib.hid hok
      have HB0 := Lib.hid (B1.out.trans (hbr.mono B1.out.size))
      clear harr hbr hok
      by_cases hlt : k < ps.length
      · obtain ⟨a', c', e', _, hopen⟩ := (HP1.out.below HB.out).shape
        rw [strVals_len] at hopen
        obtain ⟨b, off, rfl, hc, hlt2, hx⟩ := hopen (by omega)
        simp only [Value.slice.injEq, Option.some.injEq, Addr.mk.injEq] at e'
        obtain ⟨⟨rfl, rfl, _⟩, hee, rfl⟩ := e'
        clear hee
        have hcell := hx k _ (strVals_get ps k hlt)
        rw [Nat.zero_add] at hcell
        have hsz2 : ps[k].size ≤ s.size := HP.out _ (List.getElem_mem hlt)
        clear hx hopen
        have FT := Lib.hid (fsts_take hlt)
        have HR := Lib.hid (i_readI ps[k] (by omega))
        generalize hq : rdI ps[k].data.toList = q at HR
        have HQ := Lib.hid (show rdS ps[k] = q from hq)
        clear hq
        obtain ⟨qn, qb⟩ := q
        cases qb
        · have HF := Lib.hid (oks_not hlt (by rw [HQ.out]))
          go_wp2_with fail
          refine (HR.out _ (HV.out.below HB0.out)).mono ?_
          rintro e w2 ⟨rfl, hb2⟩
          have HB2 := Lib.hid (HB0.out.trans (hb2.mono HB0.out.size))
          clear hb2
          go_wp2_with fail
          go_ret2
          rw [parsP_not HF.out]
          exact ⟨⟨_, rfl, OwnV.nil⟩, HB2.out⟩
        · have HT := Lib.hid (oks_take hlt HK.out (by rw [HQ.out]))
          have hl1 : (fsts (ps.take k)).length = k := by rw [fsts_len, List.length_take]; omega
          have hl3 : (arr3 (fsts (ps.take k))).length = 3 := arr3_len (by omega)
          have ST := Lib.hid (arr3_step (l := fsts (ps.take k)) qn (by omega))
          have HL1 := Lib.hid hl1
          have HL3 := Lib.hid hl3
          clear hl1 hl3
          have k3 : k < 3 := by omega
          have i1 : (0 : Int) ≤ (k : Int) := by omega
          have i2 : (k : Int) < 3 := by omega
          have hplt := lt_of_heap HA.out
          go_wp2_with fail
          refine (HR.out _ (HV.out.below HB0.out)).mono ?_
          rintro e w2 ⟨rfl, hb2⟩
          have ha2 : w2.heap[w1.heap.size]? = some (.cells (intVals (arr3 (fsts (ps.take k)))).toArray 74 (0, 0)) := by rw [hb2.block _ hplt]; exact HA.out
          obtain ⟨old, hmine⟩ : ∃ old : Int, w2.cell? ⟨w1.heap.size, k, none⟩ = some (.int .i64 old) := ⟨_, arr_cell ha2 k (by rw [HL3.out]; omega)⟩
          have hfree : w2.frozen? ⟨w1.heap.size, k, none⟩ = false := frozen_of_row _ _ k _ _ ha2
          have HA2 := Lib.hid (heap_setCell_same w2 w1.heap.size k _ _ (.int .i64 qn) ha2)
          have HB2 := Lib.hid (HB.out.trans (hb2.mono HB.out.size))
          clear ha2 hb2
          go_wp2
          refine ⟨⟨k + 1, by omega, by go_num, ?_, HT.out, HB2.out.setCell (Nat.le_refl _) _⟩, by simp [RowKit.intOf]; omega⟩
          rw [HA2.out, FT.out, HQ.out, ← ST.out, HL1.out]
          simp
      · obtain rfl : k = ps.length := by omega
        have hk2 := HK.out
        have ha2 := HA.out
        rw [List.take_length] at hk2 ha2
        obtain ⟨x, y, z, p1, p2⟩ := arr3_pad (fsts ps) (by rw [fsts_len]; exact hp1) (by rw [fsts_len]; exact hfew)
        rw [p1] at ha2
        rw [fsts_len] at p2
        have ER := Lib.hid (show parsP ps = vecR ([x, y, z].take ps.length) by rw [p2]; exact if_pos hk2)
        have k0 : wr.cell? ⟨w1.heap.size, 0, none⟩ = some (.int .i64 x) := arr_cell ha2 0 (by simp)
        have k1 : wr.cell? ⟨w1.heap.size, 1, none⟩ = some (.int .i64 y) := arr_cell ha2 1 (by simp)
        have k2 : wr.cell? ⟨w1.heap.size, 2, none⟩ = some (.int .i64 z) := arr_cell ha2 2 (by simp)
        clear hk2 ha2 p1 p2
        go_wp2_with fail
        refine (i_vecof x y z ps.length hp1 hfew _).mono ?_
        rintro e w2 ⟨⟨r, rfl, ho⟩, hb2⟩
        have HO := Lib.hid (ho.mono (lo' := w.heap.size) HB0.out.size (Nat.le_refl _))
        have HB2 := Lib.hid (HB0.out.trans (hb2.mono HB0.out.size))
        clear ho hb2
        go_wp2_with fail
        go_ret2
        rw [ER.out]
        exact ⟨⟨_, rfl, HO.out⟩, HB2.out⟩
end Go.Proofs.YtflkalgofkpdbaaDoor
/- The bulk of a slice of strings. -/
namespace Go.Proofs.YtflkalgofkpdbaaDoor
open Go.RowKit Go.Lib

end Go.Proofs.YtflkalgofkpdbaaDoor
/- A copy of a slice of strings. -/
namespace Go.Proofs.YtflkalgofkpdbaaDoor
open Go.RowKit Go.Lib


end Go.Proofs.YtflkalgofkpdbaaDoor
/- Equality of two slices of strings. -/
namespace Go.Proofs.YtflkalgofkpdbaaDoor
open Go.RowKit Go.Lib

theorem strVals_ne {ss tt : List ByteArray} {k : Nat} (hk : k < ss.length) (hk' : k < tt.length) (h : ss[k] ≠ tt[k]) : ss ≠ tt := by
  intro e; subst e; exact h rfl
/-- Equality of two lists of strings, as a Bool that the walk leaves closed. -/
def eqStr (ss tt : List ByteArray) : Bool := decide (ss = tt)

end Go.Proofs.YtflkalgofkpdbaaDoor
/- Plain facts: elements with a separator between them. -/
namespace Go.Proofs.YtflkalgofkpdbaaDoor
open Go.Lib

def jn (sep : List UInt8) (ss : List ByteArray) : List UInt8 := Lib.join (ss.map (·.data.toList)) sep
theorem jn_nil (sep : List UInt8) : jn sep [] = [] := rfl
theorem jn_one (sep : List UInt8) (s : ByteArray) : jn sep [s] = s.data.toList := by simp [jn, join_one]
theorem jn_step (sep : List UInt8) (ss : List ByteArray) (k : Nat) (h : k < ss.length) (h0 : 0 < k) : jn sep (ss.take (k + 1)) = jn sep (ss.take k) ++ sep ++ ss[k].data.toList := by
  cases ss with
  | nil => simp at h
  | cons x r =>
    obtain ⟨j, rfl⟩ : ∃ j, k = j + 1 := ⟨k - 1, by omega⟩
    simp only [List.length_cons] at h
    have hj : j < r.length := by omega
    have e := joinTail_take_succ sep (r.map (·.data.toList)) j (r[j].data.toList) (by simp [hj])
    simp only [jn, List.take_succ_cons, List.map_cons, join_cons, List.map_take, List.getElem_cons_succ]
    rw [e]; simp [List.append_assoc]
theorem jn_len (sep : List UInt8) (ss : List ByteArray) (k : Nat) (h : k ≤ ss.length) : (jn sep (ss.take k)).length ≤ sizes ss + k * sep.length := by
  have key : ∀ j, j ≤ ss.length → (jn sep (ss.take j)).length ≤ sizes (ss.take j) + j * sep.length := by
    intro j
    induction j with
    | zero => intro _; simp [jn_nil]
    | succ j ih =>
      intro hj
      have h1 := ih (by omega)
      have h2 := sizes_snoc ss j (by omega)
      have hsz : ss[j].data.toList.length = ss[j].size := by rw [Array.length_toList]; rfl
      rw [h2]
      by_cases h0 : 0 < j
      · rw [jn_step sep ss j (by omega) h0, List.length_append, List.length_append, hsz, Nat.succ_mul]; omega
      · obtain rfl : j = 0 := by omega
        have : ss.take (0 + 1) = [ss[0]] := by rw [List.take_succ_eq_append_getElem (by omega)]; simp
        rw [this, jn_one, hsz]; omega
  exact Nat.le_trans (key k h) (by have := sizes_take_le ss k; omega)
theorem join_len (sep : List UInt8) (ss : List ByteArray) : (jn sep ss).length ≤ sizes ss + ss.length * sep.length := by
  have := jn_len sep ss ss.length (Nat.le_refl _)
  rwa [List.take_length] at this

end Go.Proofs.YtflkalgofkpdbaaDoor
/- spec.Join: the elements with the separator between them. -/
namespace Go.Proofs.YtflkalgofkpdbaaDoor
open Go.RowKit Go.Lib

def u8cells (l : List UInt8) : List Value := l.map fun b => Value.int .u8 b.toNat
theorem strCells_eq (s : ByteArray) : strCells s = u8cells s.data.toList := rfl
theorem u8cells_app (a b : List UInt8) : u8cells (a ++ b) = u8cells a ++ u8cells b := by simp [u8cells]

/-- 'string(out)' of a row that the call made. -/
theorem run_row_string {P : Program} (src dst e : TypeId) (hs : P.underlying src = some (.slice e)) (he : P.underlying e = some (.int .u8)) (hd : P.underlying dst = some .string)
    {w : World} {base : Nat} {v : Value} {l : List UInt8} (h : w.ownsRow base e 1 v l.length (u8cells l)) :
    (convert src dst v).run P w = .ok (.string ⟨l.toArray⟩) w := by
  have fold : ∀ (l : List UInt8) (r : ByteArray), (l.map fun b => ((b.toNat : Nat) : Int)).foldl (fun r n => r.push (UInt8.ofNat n.toNat)) r = ⟨r.data ++ l.toArray⟩ := by
    intro l
    induction l with
    | nil => intro r; simp
    | cons c l ih =>
      intro r
      simp only [List.map_cons, List.foldl_cons]
      rw [ih]
      simp [ByteArray.push]
  rcases h.2 with ⟨rfl, h0⟩ | ⟨g, cap, cur, rfl, hg, hb, hn, hm, hsz, ht⟩
  · have : l = [] := by simpa using h0
    subst this
    rw [run_convert_bytes_string _ src dst e _ _ _ hs he hd]
    rfl
  · rw [run_convert_bytes_string _ src dst e _ _ _ hs he hd]
    rw [run_bytesToString w ⟨g, 0, none⟩ l.length cap (l.map fun b => ((b.toNat : Nat) : Int))]
    · rw [fold]; rw [show ByteArray.empty.data = #[] from rfl, Array.empty_append]
    · have e1 : (l.map fun b => ((b.toNat : Nat) : Int)).map (Value.int .u8) = u8cells l := by simp [u8cells, Function.comp_def]
      rw [e1]
      have := run_loadCells_list (P := P) (w := w) ⟨g, 0, none⟩ (u8cells l) (h.cells rfl)
      simpa [u8cells] using this
theorem info_u8 : (Tryd.prog.info? 5).map (fun i => (i.zero, i.size, i.bytes)) = some (some (.int .u8 0), 1, 1) := by kernel_rfl

theorem first_eq (ss : List ByteArray) (h : 0 < ss.length) : ss.take (0 + 1) = [ss[0]] := by rw [List.take_succ_eq_append_getElem h]; simp

set_option maxRecDepth 100000 in
set_option maxHeartbeats 400000 in
theorem sjoin (ss : List ByteArray) (by_ : ByteArray) (v : Value) (w : World) (hv : Sl w v (strVals ss)) (hl : ss.length ≤ 1048576) (hb : by_.size ≤ 1048576) (hs : sizes ss ≤ 1048576) :
    Calls Tryd.prog 35 #[v, .string by_] w fun e w' => e = .returned (.string ⟨(jn by_.data.toList ss).toArray⟩) ∧ Below w.heap.size w w' := by
  obtain ⟨a, c, rfl, hm, hopen⟩ := hv.shape
  rw [strVals_len] at hm hopen ⊢
  unfold maxLen at hm
  obtain ⟨i0, hi, hz0, hz1, hz2⟩ := info_parts info_u8
  have hbl : by_.data.toList.length = by_.size := by rw [Array.length_toList]; rfl
  have HL : ∀ k, k ≤ ss.length → (jn by_.data.toList (ss.take k)).length ≤ 1048576 + 1048576 * 1048576 := by
    intro k hk
    have h1 := jn_len by_.data.toList ss k hk
    rw [hbl] at h1
    have h2 : k * by_.size ≤ 1048576 * 1048576 := Nat.mul_le_mul (by omega) hb
    omega
  have HL' := Lib.hid HL
  have HO := Lib.hid hopen
  have HBL := Lib.hid hbl
  have HI := Lib.hid (And.intro hi (And.intro hz0 (And.intro hz1 hz2)))
  clear hopen hv HL hbl hi hz0 hz1 hz2
  go_enter Tryd.func35, Tryd.ntmps35
  go_wp2
  go_loopw [5, 6] (fun o i wr => ∃ k : Nat, k ≤ ss.length ∧ i = .int .i64 k ∧ wr.ownsRow w.heap.size 5 1 o (jn by_.data.toList (ss.take k)).length (u8cells (jn by_.data.toList (ss.take k))) ∧ Below w.heap.size w wr) (fun _ i _ => ss.length - (RowKit.intOf i).toNat)
  case atStart => exact ⟨0, Nat.zero_le _, rfl, owns_empty (Nat.le_refl _), (Below.refl _ _).alloc (Nat.le_refl _) _⟩
  case round =>
    obtain ⟨k, hk, rfl, how, hbr⟩ := hrel
    by_cases hlt : k < ss.length
    · obtain ⟨b, off, rfl, hc, hlt2, hx⟩ := HO.out (by omega)
      have hcell := hx k _ (strVals_get ss k hlt)
      rw [← hbr.cell (p := ⟨b, off + k, none⟩) hlt2] at hcell
      have hbk := HL'.out (k + 1) hlt
      have HW := Lib.hid how
      have HR := Lib.hid hbr
      clear hx how hbr
      by_cases h0 : 0 < k
      · have HS := Lib.hid (jn_step by_.data.toList ss k hlt h0)
        have hk0 : decide ((0 : Int) < (k : Int)) = true := by simpa using h0
        have hl1 := HS.out
        replace hl1 := congrArg List.length hl1
        have hszk : ss[k].data.toList.length = ss[k].size := by rw [Array.length_toList]; rfl
        rw [List.length_append, List.length_append, HBL.out, hszk] at hl1
        have C1 := Lib.hid (show (jn by_.data.toList (ss.take k)).length + by_.size ≤ maxLen by unfold maxLen; omega)
        have C2 := Lib.hid (show (jn by_.data.toList (ss.take k)).length + by_.size ≤ 140737488355328 by omega)
        have C3 := Lib.hid HR.out.size
        have D1 := Lib.hid (show (jn by_.data.toList (ss.take k)).length + by_.size + ss[k].size ≤ maxLen by unfold maxLen; omega)
        have D2 := Lib.hid (show (jn by_.data.toList (ss.take k)).length + by_.size + ss[k].size ≤ 140737488355328 by omega)
        have HL1 := Lib.hid hl1
        clear hl1 hszk hbk
        go_wp2_with (first | (at_builtin; refine wpList_append_own_string _ rfl (.tmp 16) (.tmp 17) 60 9 rfl w.heap.size 5 i0 Tryd.underlying60 Tryd.underlying9 HI.out.1 HI.out.2.1 HI.out.2.2.1 HI.out.2.2.2 _ _ _ rfl HW.out by_ rfl C1.out C2.out C3.out ?_; intro v1 w1 hown1 hgrow1 _; have hb1 := HR.out.grown hgrow1 C3.out (fun q hq => (HW.out.lt q hq).1); have hcell1 := (hb1.cell (p := ⟨b, off + k, none⟩) hlt2).trans ((HR.out.cell (p := ⟨b, off + k, none⟩) hlt2).symm.trans hcell); have HW1 := Lib.hid hown1; have HB1 := Lib.hid hb1; have C4 := Lib.hid hb1.size; clear hown1 hb1 hgrow1) | (at_builtin; refine wpList_append_own_string _ rfl (.tmp 19) (.tmp 23) 60 9 rfl w.heap.size 5 i0 Tryd.underlying60 Tryd.underlying9 HI.out.1 HI.out.2.1 HI.out.2.2.1 HI.out.2.2.2 _ _ _ rfl HW1.out ss[k] rfl D1.out D2.out C4.out ?_; intro v2 w2 hown2 hgrow2 _; have hb2 := HB1.out.grown hgrow2 C4.out (fun q hq => (HW1.out.lt q hq).1); have HW2 := Lib.hid hown2; have HB2 := Lib.hid hb2; clear hown2 hb2 hgrow2))
        go_wp2
        have hw := HW2.out
        rw [strCells_eq, strCells_eq, ← u8cells_app, ← u8cells_app, ← HS.out, ← HL1.out] at hw
        exact ⟨⟨k + 1, by omega, by go_num, hw, HB2.out⟩, by simp [RowKit.intOf]; omega⟩
      · obtain rfl : k = 0 := by omega
        rw [Nat.add_zero] at hcell
        have hf : jn by_.data.toList (ss.take (0 + 1)) = ss[0].data.toList := by rw [first_eq ss hlt, jn_one]
        have hszk : ss[0].data.toList.length = ss[0].size := by rw [Array.length_toList]; rfl
        rw [hf, hszk] at hbk
        have h00 : jn by_.data.toList (ss.take 0) = [] := rfl
        rw [h00] at HW
        have C1 := Lib.hid (show ([] : List UInt8).length + ss[0].size ≤ maxLen by unfold maxLen; simp only [List.length_nil]; omega)
        have C2 := Lib.hid (show ([] : List UInt8).length + ss[0].size ≤ 140737488355328 by simp only [List.length_nil]; omega)
        have C3 := Lib.hid HR.out.size
        have HF := Lib.hid (And.intro hf hszk)
        clear hf hszk h00 hbk
        go_wp2_with (at_builtin; (refine wpList_append_own_string _ rfl (.tmp 19) (.tmp 23) 60 9 rfl w.heap.size 5 i0 Tryd.underlying60 Tryd.underlying9 HI.out.1 HI.out.2.1 HI.out.2.2.1 HI.out.2.2.2 _ _ _ rfl HW.out ss[0] rfl C1.out C2.out C3.out ?_); (intro v1 w1 hown1 hgrow1 _))
        have hb1 := HR.out.grown hgrow1 C3.out (fun q hq => (HW.out.lt q hq).1)
        have HW1 := Lib.hid hown1
        have HB1 := Lib.hid hb1
        clear hown1 hb1 hgrow1
        go_wp2
        have hw := HW1.out
        rw [strCells_eq, ← u8cells_app, List.nil_append, List.length_nil, Nat.zero_add, ← HF.out.2, ← HF.out.1] at hw
        exact ⟨⟨1, by omega, by go_num, hw, HB1.out⟩, by simp [RowKit.intOf]; omega⟩
    · obtain rfl : k = ss.length := by omega
      have hcv := run_row_string (P := Tryd.prog) 60 9 5 Tryd.underlying60 Tryd.underlying5 Tryd.underlying9 how
      rw [List.take_length] at hcv
      have HR := Lib.hid hbr
      clear how hbr
      go_wp2
      go_ret
      exact ⟨rfl, HR.out⟩

end Go.Proofs.YtflkalgofkpdbaaDoor
/- See the module that is imported. -/
/- impl.Join: the elements with the separator between them. -/
namespace Go.Proofs.YtflkalgofkpdbaaDoor
open Go.RowKit Go.Lib

set_option maxRecDepth 100000 in
set_option maxHeartbeats 400000 in
/-- impl.Join. -/
theorem ijoin (ss : List ByteArray) (by_ : ByteArray) (v : Value) (w : World) (hv : Sl w v (strVals ss)) (hl : ss.length ≤ 1048576) (hb : by_.size ≤ 1048576) (hs : sizes ss ≤ 1048576) :
    Calls Tryd.prog 22 #[v, .string by_] w fun e w' => e = .returned (.string ⟨(jn by_.data.toList ss).toArray⟩) ∧ Below w.heap.size w w' := by
  have call : ∀ W, Sl W v (strVals ss) → Calls Tryd.prog 40 #[v, .string by_] W fun e w' => e = .returned (.string ⟨(jn by_.data.toList ss).toArray⟩) ∧ Below W.heap.size W w' := by
    intro W hW
    rcases hW with ⟨h0, a, c, rfl⟩ | ⟨h0, b, off, c, rfl, hc, hm, hlt, hx⟩
    · obtain rfl : ss = [] := by simpa [strVals] using h0
      exact (Tryd.strings_Join_none a c by_ W).mono fun e w' ⟨he, hw⟩ => ⟨he, by rw [hw]; exact Below.refl _ _⟩
    · rw [strVals_len] at hc hm ⊢
      have h1 := join_len by_.data.toList ss
      have hbl : by_.data.toList.length = by_.size := by rw [Array.length_toList]; rfl
      rw [hbl] at h1
      have h2 : ss.length * by_.size ≤ 1048576 * 1048576 := Nat.mul_le_mul hl hb
      exact Tryd.strings_Join b off c ss by_ W (fun j x hj => hx j _ (by simp [strVals, hj])) hlt (by omega) hc (by unfold jn at h1; omega)
  have HC := Lib.hid (call w hv)
  clear call hv
  go_enter Tryd.func22, Tryd.ntmps22
  go_wp2_with fail
  refine HC.out.mono ?_
  rintro e w' ⟨rfl, hb⟩
  go_wp2_with fail
  go_ret
  exact ⟨rfl, hb⟩
end Go.Proofs.YtflkalgofkpdbaaDoor
/- Vectors as texts: the model's and the program's VectorText. -/
namespace Go.Proofs.YtflkalgofkpdbaaDoor
open Go.RowKit Go.Lib

def numeral (n : Int) : ByteArray := ⟨(itoa n).toArray⟩
def numerals (v : List Int) : List ByteArray := v.map numeral
theorem numerals_len (v : List Int) : (numerals v).length = v.length := by simp [numerals]
theorem numerals_take {v : List Int} {k : Nat} (h : k < v.length) : numerals (v.take (k + 1)) = numerals (v.take k) ++ [numeral v[k]] := by
  unfold numerals
  rw [List.take_succ_eq_append_getElem h, List.map_append]; rfl
/-- The numbers in decimal with commas between. -/
def textL (v : List Int) : List UInt8 := jn [44] (numerals v)
def textV (v : List Int) : List UInt8 := if isV v = true then textL v else []
def W64 (v : List Int) : Prop := ∀ (k : Nat) (h : k < v.length), -9223372036854775808 ≤ v[k] ∧ v[k] ≤ 9223372036854775807
theorem Bd.w64 {v : List Int} {n : Int} (h : Bd v n) (hn : n ≤ 9223372036854775807) : W64 v := fun k hk => ⟨by have := h k hk; omega, by have := h k hk; omega⟩
theorem numeral_size (n : Int) (h0 : -9223372036854775808 ≤ n) (h1 : n ≤ 9223372036854775807) : (numeral n).size ≤ 21 := by
  have := itoa_length_le n h0 h1
  show (itoa n).toArray.size ≤ 21
  simpa using this
theorem numerals_sizes : ∀ (v : List Int), W64 v → sizes (numerals v) ≤ 21 * v.length
  | [], _ => by simp [sizes, numerals]
  | x :: r, h => by
    have h0 := h 0 (by simp)
    have ih := numerals_sizes r (fun k hk => h (k + 1) (by simpa using hk))
    have hx := numeral_size x h0.1 h0.2
    have e : sizes (numerals (x :: r)) = (numeral x).size + sizes (numerals r) := by simp [sizes, numerals]
    rw [e, List.length_cons]
    omega

set_option maxRecDepth 100000 in
set_option maxHeartbeats 400000 in
theorem s_l2text (v : List Int) (hv' : W64 v) (hm : v.length ≤ 49000) (a : Value) (w : World) (hv : Sl w a (intVals v)) :
    Calls Tryd.prog 17 #[a] w (Quiet w (.string ⟨(textL v).toArray⟩)) := by
  obtain ⟨a, c, rfl, _, hopen⟩ := hv.shape
  rw [intVals_len] at hopen ⊢
  have HO := Lib.hid hopen
  have HV := Lib.hid hv'
  clear hopen hv hv'
  go_enter Tryd.func17, Tryd.ntmps17
  go_wp2
  go_loopw [3, 4] (fun o i wr => ∃ k : Nat, k ≤ v.length ∧ i = .int .i64 k ∧ wr.ownsRow w.heap.size 9 1 o k (strVals (numerals (v.take k))) ∧ Below w.heap.size w wr) (fun _ i _ => v.length - (RowKit.intOf i).toNat)
  case atStart => exact ⟨0, Nat.zero_le _, rfl, owns_empty (Nat.le_refl _), (Below.refl _ _).alloc (Nat.le_refl _) _⟩
  case round =>
    obtain ⟨k, hk, rfl, how, hbr⟩ := hrel
    have HW := Lib.hid how
    have HB := Lib.hid hbr
    by_cases hlt : k < v.length
    · obtain ⟨b, off, rfl, hc, hlt2, hx⟩ := HO.out (by omega)
      have hcell := hx k _ (intVals_get v k hlt)
      rw [← hbr.cell (p := ⟨b, off + k, none⟩) hlt2] at hcell
      clear hx hbr how
      have hw1 := (HV.out k hlt).1
      have hw2 := (HV.out k hlt).2
      have NT := Lib.hid (numerals_take hlt)
      have hk' : k ≤ 1099511627776 := by omega
      go_wp2_with fail
      refine (fi_any v[k] hw1 hw2 _).mono ?_
      rintro e w1 ⟨rfl, hb1⟩
      have HB1 := Lib.hid (HB.out.trans (hb1.mono HB.out.size))
      have HW1 := Lib.hid (owns_below HW.out hb1)
      clear hb1
      have C3 := Lib.hid (show w.heap.size ≤ (w1.alloc (.cells #[.string ⟨(itoa v[k]).toArray⟩] 9)).heap.size by rw [World.size_alloc]; exact Nat.le_succ_of_le HB1.out.size)
      go_wp2_with (at_builtin; refine list_app_str rfl _ _ rfl w.heap.size _ k (numerals (v.take k)) _ rfl (HW1.out.alloc _) w1.heap.size rfl (heap_alloc_new w1 _) hk' C3.out ?_; intro v' w2 hown1 hbel; have HO1 := Lib.hid hown1; have HB2 := Lib.hid ((HB1.out.alloc HB1.out.size _).trans hbel); clear hown1 hbel)
      refine ⟨⟨k + 1, by omega, by go_num, ?_, HB2.out⟩, by simp [RowKit.intOf]; omega⟩
      rw [NT.out]
      exact HO1.out
    · obtain rfl : k = v.length := by omega
      clear hbr how
      have HS := Lib.hid (numerals_sizes v HV.out)
      have HN := Lib.hid (numerals_len v)
      have hw := HW.out
      rw [List.take_length] at hw
      have HW2 := Lib.hid (Sl.of_owns hw)
      clear hw
      go_wp2_with fail
      refine (sjoin (numerals v) ⟨#[44]⟩ _ _ HW2.out (by rw [HN.out]; omega) (by show 1 ≤ 1048576; omega) (by have := HS.out; omega)).mono ?_
      rintro e w1 ⟨rfl, hb1⟩
      have HB1 := Lib.hid (HB.out.trans (hb1.mono HB.out.size))
      clear hb1
      go_wp2_with fail
      go_ret
      exact ⟨rfl, HB1.out⟩

set_option maxRecDepth 100000 in
set_option maxHeartbeats 800000 in
theorem i_text (v : List Int) (a : Value) (w : World) (hx : HasPow w) (hv : Sl w a (intVals v)) :
    Calls Tryd.prog 21 #[a] w (Quiet w (.string ⟨(textV v).toArray⟩)) := by
  have HC := Lib.hid (i_isv v a w hv)
  have HX := Lib.hid hx
  obtain ⟨a, c, rfl, _, hopen⟩ := hv.shape
  rw [intVals_len] at HC hopen ⊢
  have HO := Lib.hid hopen
  clear hv hx hopen
  by_cases h : isV v = true
  · obtain ⟨l1, l2, l3⟩ := isV_t h
    have E := Lib.hid h
    have ER := Lib.hid (show textV v = textL v from if_pos h)
    have HV := Lib.hid ((small_bd l3).w64 (by omega))
    obtain ⟨i0, hi, hz0, hz1, hz2⟩ := info_parts info_str
    have HI := Lib.hid (And.intro hi (And.intro hz0 (And.intro hz1 hz2)))
    have HN := Lib.hid (numerals_len v)
    clear h l3 hi hz0 hz1 hz2
    go_enter Tryd.func21, Tryd.ntmps21
    go_wp2_with fail
    refine HC.out.mono ?_
    rintro e w1 ⟨rfl, hb1⟩
    rw [E.out]
    have B1 := Lib.hid hb1
    clear hb1
    go_wp2_with (at_make; refine wpList_make_full _ rfl _ _ 45 rfl w1.heap.size 9 i0 _ 1 Tryd.underlying45 HI.out.1 HI.out.2.1 HI.out.2.2.1 .i64 .i64 _ _ v.length rfl rfl rfl rfl (by rw [HI.out.2.2.2]; omega) (by unfold maxLen; omega) (Nat.le_refl _) ?_; intro w2 hown hgrow)
    have hbel : Below w1.heap.size w1 w2 := (Below.refl _ _).grown hgrow (Nat.le_refl _) (fun _ h => by cases h)
    rw [show (Value.string ⟨#[]⟩).cells = #[Value.string ⟨#[]⟩] from rfl, toList_madeCells_one, Nat.mul_one, show v.length = (strVals (numerals v)).length by rw [strVals_len, numerals_len], ← filled_zero (strVals (numerals v))] at hown
    rw [strVals_len, HN.out] at hown
    have HW := Lib.hid hown
    have HB := Lib.hid (B1.out.trans (hbel.mono B1.out.size))
    have hsz1 : w1.heap.size < w2.heap.size := (hown.lt _ rfl).2
    clear hown hgrow hbel
    have hn8 : w.heap.size ≤ w1.heap.size := B1.out.size
    go_loopw [14] (fun i wr => ∃ k : Nat, k ≤ v.length ∧ i = .int .i64 k ∧ wr.ownsRow w1.heap.size 9 1 (.slice (some ⟨w1.heap.size, 0, none⟩) v.length v.length) v.length (filled (strVals (numerals v)) (.string ⟨#[]⟩) k) ∧ Below w.heap.size w wr) (fun i _ => v.length - (RowKit.intOf i).toNat)
    case atStart => exact ⟨0, Nat.zero_le _, rfl, HW.out, HB.out⟩
    case round =>
      obtain ⟨k, hk, rfl, how, hbr⟩ := hrel
      by_cases hlt : k < v.length
      · obtain ⟨b, off, rfl, hc, hlt2, hx⟩ := HO.out (by omega)
        have hcell := hx k _ (intVals_get v k hlt)
        rw [← hbr.cell (p := ⟨b, off + k, none⟩) hlt2] at hcell
        have hw1 := (HV.out k hlt).1
        have hw2 := (HV.out k hlt).2
        have HR := Lib.hid hbr
        have HOW := Lib.hid how
        clear hx how hbr
        go_wp2_with fail
        refine (ifi v[k] hw1 hw2 _ (HX.out.below HR.out)).mono ?_
        rintro e w3 ⟨rfl, hb3⟩
        have how3 := owns_below HOW.out hb3
        have hmine := how3.cellAt k (by omega)
        rw [filled_get _ _ _ (by rw [strVals_len, numerals_len]; exact hlt)] at hmine
        have hfree := how3.frozenAt k
        have HS := Lib.hid (how3.stored k (.string ⟨(itoa v[k]).toArray⟩))
        have HR3 := Lib.hid (HR.out.trans (hb3.mono HR.out.size))
        have NG := Lib.hid (show (strVals (numerals v))[k]? = some (.string ⟨(itoa v[k]).toArray⟩) by rw [strVals_get _ _ (by rw [numerals_len]; exact hlt)]; simp [numerals, numeral])
        clear how3 hb3
        go_wp2
        have h2 := HS.out.1
        rw [filled_step _ _ _ _ NG.out] at h2
        exact ⟨⟨k + 1, by omega, by go_num, h2, HR3.out.setCell hn8 _⟩, by simp [RowKit.intOf]; omega⟩
      · obtain rfl : k = v.length := by omega
        have HS := Lib.hid (numerals_sizes v HV.out)
        have hfa := filled_all (strVals (numerals v)) (.string ⟨#[]⟩)
        rw [strVals_len, numerals_len] at hfa
        rw [hfa] at how
        have HA := Lib.hid (Sl.of_owns how)
        have HR := Lib.hid hbr
        clear how hbr hfa
        go_wp2_with fail
        refine (ijoin (numerals v) ⟨#[44]⟩ _ _ HA.out (by rw [HN.out]; omega) (by show 1 ≤ 1048576; omega) (by have := HS.out; omega)).mono ?_
        rintro e w4 ⟨rfl, hb4⟩
        have HB4 := Lib.hid (HR.out.trans (hb4.mono HR.out.size))
        clear hb4
        go_wp2_with fail
        go_ret
        exact ⟨ret_str ER.out.symm, HB4.out⟩
  · have E := Lib.hid (bool_f h)
    have ER := Lib.hid (show textV v = [] from if_neg h)
    clear h
    go_enter Tryd.func21, Tryd.ntmps21
    go_wp2_with fail
    refine HC.out.mono ?_
    rintro e w1 ⟨rfl, hb1⟩
    rw [E.out]
    go_wp2_with fail
    go_ret
    exact ⟨ret_str ER.out.symm, hb1⟩
end Go.Proofs.YtflkalgofkpdbaaDoor
/- The parts of a text, joined again. -/
namespace Go.Proofs.YtflkalgofkpdbaaDoor
open Go.RowKit Go.Lib

theorem join_sp (c : UInt8) : ∀ l : List UInt8, Lib.join (sp c l) [c] = l
  | [] => by simp [sp, join_one]
  | b :: r => by
    have ih := join_sp c r
    unfold sp
    cases hs : sp c r with
    | nil => exact absurd hs (sp_ne c r)
    | cons h t =>
      rw [hs, join_cons] at ih
      split
      · rename_i hb
        subst hb
        rw [join_cons]
        have e : joinTail [b] (h :: t) = b :: (h ++ joinTail [b] t) := by simp [joinTail]
        rw [e, ih]; rfl
      · simp only [join_cons, List.cons_append]
        rw [ih]
theorem jn_parts (c : UInt8) (l : List UInt8) : jn [c] (parts c l) = l := by
  unfold jn parts
  rw [List.map_map]
  have : (sp c l).map ((fun x : ByteArray => x.data.toList) ∘ fun x => (⟨x.toArray⟩ : ByteArray)) = sp c l := by
    conv => rhs; rw [← List.map_id (sp c l)]
    exact List.map_congr_left (fun a _ => rfl)
  rw [this, join_sp]
/-- The numeral of what was read is what was read. -/
theorem rdI_text {l : List UInt8} (h : (rdI l).2 = true) : itoa (rdI l).1 = l := by
  unfold rdI at h ⊢
  split at h
  · split at h
    · rename_i h1
      rw [if_pos h1]
      exact h1.1.symm
    · cases h
  · cases h
theorem bytes_back (s : ByteArray) : (⟨s.data.toList.toArray⟩ : ByteArray) = s := by simp
theorem rdS_text {s : ByteArray} (h : (rdS s).2 = true) : numeral (rdS s).1 = s := by
  unfold numeral rdS
  rw [rdI_text h, bytes_back]
theorem fsts_text : ∀ {ps : List ByteArray}, oks ps = true → numerals (fsts ps) = ps
  | [], _ => rfl
  | p :: ps, h => by
    unfold oks at h
    rw [List.all_cons, Bool.and_eq_true] at h
    have ih := fsts_text (ps := ps) h.2
    have e : numerals (fsts (p :: ps)) = numeral (rdS p).1 :: numerals (fsts ps) := rfl
    rw [e, ih, rdS_text h.1]
theorem parsV_text {l : List UInt8} (h : (parsV l).2 = true) : textL (parsV l).1 = l := by
  unfold parsV parsP at h ⊢
  split at h
  · rename_i h1
    rw [if_pos h1]
    unfold vecR at h ⊢
    split at h
    · rename_i h2
      rw [if_pos h2]
      show jn [44] (numerals (fsts (parts 44 l))) = l
      rw [fsts_text h1, jn_parts]
    · cases h
  · cases h
end Go.Proofs.YtflkalgofkpdbaaDoor
/- The program's vectors: PrimitiveOf, BeforeVector. -/
namespace Go.Proofs.YtflkalgofkpdbaaDoor
open Go.RowKit Go.Lib

theorem allG_zero {x y z : Int} (n : Nat) (h : x = 0 ∧ y = 0 ∧ z = 0) : allG ([x, y, z].take n) = 0 := by
  obtain ⟨rfl, rfl, rfl⟩ := h
  match n with
  | 0 => rfl
  | 1 => rfl
  | 2 => rfl
  | n + 3 => simp [allG, gcdI]
theorem allG_dvd (v : List Int) : ∀ x ∈ v, allG v ∣ x := by
  have key : ∀ (v : List Int) (g : Int), (v.foldl gcdI g ∣ g) ∧ ∀ x ∈ v, v.foldl gcdI g ∣ x := by
    intro v
    induction v with
    | nil => intro g; exact ⟨Int.dvd_refl _, by simp⟩
    | cons y r ih =>
      intro g
      obtain ⟨h1, h2⟩ := ih (gcdI g y)
      refine ⟨Int.dvd_trans h1 (Int.gcd_dvd_left ..), fun x hx => ?_⟩
      rcases List.mem_cons.1 hx with rfl | hx
      · exact Int.dvd_trans h1 (Int.gcd_dvd_right ..)
      · exact h2 x hx
  exact (key v 0).2
theorem allG_pos {v : List Int} (h : ¬ ∀ x ∈ v, x = 0) : 0 < allG v := by
  have h0 := allG_nonneg v
  by_cases hz : allG v = 0
  · exfalso; apply h
    intro x hx
    have := allG_dvd v x hx
    rw [hz] at this
    exact Int.zero_dvd.1 this
  · omega
theorem pad_zero {v : List Int} {x y z : Int} (e : v = [x, y, z].take v.length) (h3 : v.length < 3 → z = 0) (h2 : v.length < 2 → y = 0) (h1 : 1 ≤ v.length) (h : ∀ u ∈ v, u = 0) : x = 0 ∧ y = 0 ∧ z = 0 := by
  have hx : x ∈ v := by
    rw [e]
    obtain ⟨n, hn⟩ : ∃ n, v.length = n + 1 := ⟨v.length - 1, by omega⟩
    rw [hn]; simp
  refine ⟨h x hx, ?_, ?_⟩
  · by_cases hl : v.length < 2
    · exact h2 hl
    · refine h y ?_
      rw [e]
      obtain ⟨n, hn⟩ : ∃ n, v.length = n + 2 := ⟨v.length - 2, by omega⟩
      rw [hn]; simp
  · by_cases hl : v.length < 3
    · exact h3 hl
    · refine h z ?_
      rw [e]
      obtain ⟨n, hn⟩ : ∃ n, v.length = n + 3 := ⟨v.length - 3, by omega⟩
      rw [hn]; simp
theorem take_prim {x y z g : Int} (n : Nat) : ([x, y, z].take n).map (fun u => u.tdiv g) = [x.tdiv g, y.tdiv g, z.tdiv g].take n := by
  match n with
  | 0 => rfl
  | 1 => rfl
  | 2 => rfl
  | n + 3 => simp
theorem tdiv_bd {x g M : Int} (h1 : -M ≤ x) (h2 : x ≤ M) : -M ≤ x.tdiv g ∧ x.tdiv g ≤ M := by
  have h := Int.natAbs_tdiv_le_natAbs x g
  generalize x.tdiv g = q at *
  omega
theorem small_mk {v : List Int} {n : Int} (h : Bd v n) : small v n = true := by
  unfold small
  rw [List.all_eq_true]
  intro x hx
  obtain ⟨k, hk, rfl⟩ := List.getElem_of_mem hx
  exact inR_mk (h k hk).1 (h k hk).2
theorem isV_prim {v : List Int} (h : isV v = true) : isV (primL v) = true := by
  obtain ⟨h1, h2, h3⟩ := isV_t h
  have hl : (primL v).length = v.length := by simp [primL]
  rw [isV_mk (by omega) (by omega)]
  refine small_mk ?_
  intro k hk
  have hb := small_bd h3 k (by omega)
  simp only [primL, List.getElem_map]
  exact tdiv_bd hb.1 hb.2
theorem primR_vec {u : List Int} (h : isV u = true) (h0 : 0 < allG u) : primR u = vecR (primL u) := by
  unfold primR vecR
  rw [if_pos ⟨h, h0⟩, if_pos (isV_prim h)]
theorem padz {x y z x' y' z' : Int} {u v : List Int} (hl : u.length = v.length) (e : u = [x, y, z].take u.length) (e' : v = [x', y', z'].take v.length) (h : x = x' ∧ y = y' ∧ z = z') : u = v := by
  obtain ⟨rfl, rfl, rfl⟩ := h
  rw [e, e', hl]
theorem pad_same {x y z x' y' z' : Int} {u : List Int} (h : splice [Value.int .i64 0, .int .i64 0, .int .i64 0] 0 (intVals u) = [.int .i64 x, .int .i64 y, .int .i64 z]) (h' : splice [Value.int .i64 0, .int .i64 0, .int .i64 0] 0 (intVals u) = [.int .i64 x', .int .i64 y', .int .i64 z']) : x = x' ∧ y = y' ∧ z = z' := by
  rw [h] at h'
  simpa using h'

theorem eq_arr (x y z x' y' z' : Int) (w : World) : (Op.equalIn 10000 74 (.agg #[.int .i64 x, .int .i64 y, .int .i64 z]) (.agg #[.int .i64 x', .int .i64 y', .int .i64 z'])).run Tryd.prog w = .ok (decide (x = x' ∧ y = y' ∧ z = z')) w := by
  have u3 := Tryd.underlying3
  have a3 := Tryd.isAgg3
  have z3 := Tryd.sizeOf3
  rw [show (10000 : Nat) = 9999 + 1 from rfl, Op.equalIn]
  simp only [Sem.run_bind, run_underlying Tryd.underlying74, Result.andThen_ok]
  simp only [Std.Legacy.Range.forIn_eq_forIn_range', Std.Legacy.Range.size, Nat.sub_zero, Nat.add_sub_cancel, Nat.div_one, List.range'_succ, List.range'_zero, List.forIn_cons, List.forIn_nil]
  go_simp
  by_cases h1 : x = x' <;> by_cases h2 : y = y' <;> by_cases h3 : z = z' <;> simp [h1, h2, h3]
theorem eq_arr_t {x y z x' y' z' : Int} (h : x = x' ∧ y = y' ∧ z = z') (w : World) : (Op.equalIn 10000 74 (.agg #[.int .i64 x, .int .i64 y, .int .i64 z]) (.agg #[.int .i64 x', .int .i64 y', .int .i64 z'])).run Tryd.prog w = .ok true w := by
  rw [eq_arr, decide_eq_true h]
theorem eq_arr_f {x y z x' y' z' : Int} (h : ¬ (x = x' ∧ y = y' ∧ z = z')) (w : World) : (Op.equalIn 10000 74 (.agg #[.int .i64 x, .int .i64 y, .int .i64 z]) (.agg #[.int .i64 x', .int .i64 y', .int .i64 z'])).run Tryd.prog w = .ok false w := by
  rw [eq_arr, decide_eq_false h]

end Go.Proofs.YtflkalgofkpdbaaDoor
/- Slices of slices of integers: how they read, and rows that the call made itself, each in a block of its own. -/
namespace Go.Proofs.YtflkalgofkpdbaaDoor
open Go Go.RowKit Go.ChangeShapes Go.WideShapes Go.Deep

/-- The slice v reads as the lists zss. -/
def Rw (W : World) (v : Value) (zss : List (List Int)) : Prop :=
  ∃ vs : List Value, vs.length = zss.length ∧ Sl W v vs ∧ ∀ (i : Nat) u zs, vs[i]? = some u → zss[i]? = some zs → Sl W u (intVals zs)
theorem Rw.below {W W' : World} {v : Value} {zss : List (List Int)} (h : Rw W v zss) (hb : Below W.heap.size W W') : Rw W' v zss := by
  obtain ⟨vs, h1, h2, h3⟩ := h
  exact ⟨vs, h1, h2.below hb, fun i u zs hu hz => (h3 i u zs hu hz).below hb⟩
theorem Rw.shape {W : World} {v : Value} {zss : List (List Int)} (h : Rw W v zss) :
    ∃ (a : Option Addr) (c : Nat), v = .slice a zss.length c ∧ zss.length ≤ maxLen ∧ ∀ (i : Nat) zs, zss[i]? = some zs → ∃ b off : Nat, ∃ u, a = some ⟨b, off, none⟩ ∧ zss.length ≤ c ∧ b < W.heap.size ∧ W.cell? ⟨b, off + i, none⟩ = some u ∧ Sl W u (intVals zs) := by
  obtain ⟨vs, h1, h2, h3⟩ := h
  obtain ⟨a, c, rfl, hm, ho⟩ := h2.shape
  refine ⟨a, c, by rw [h1], by omega, fun i zs hz => ?_⟩
  have hi : i < zss.length := by
    by_cases hh : i < zss.length
    · exact hh
    · rw [List.getElem?_eq_none (by omega)] at hz; cases hz
  obtain ⟨b, off, e, hc, hb, hx⟩ := ho (by omega)
  have hu : vs[i]? = some vs[i] := List.getElem?_eq_getElem (by omega)
  exact ⟨b, off, vs[i], e, by omega, hb, hx i _ hu, h3 i _ zs hu hz⟩
theorem Rw.len {W : World} {v : Value} {zss : List (List Int)} (h : Rw W v zss) : zss.length ≤ maxLen := by
  obtain ⟨vs, h1, h2, _⟩ := h
  rw [← h1]; exact h2.len
/-- Row i. -/
theorem Rw.row {W : World} {v : Value} {zss : List (List Int)} (h : Rw W v zss) (i : Nat) (hi : i < zss.length) {a : Option Addr} {n c : Nat} (hv : v = .slice a n c) :
    ∃ b off : Nat, ∃ u, a = some ⟨b, off, none⟩ ∧ b < W.heap.size ∧ W.cell? ⟨b, off + i, none⟩ = some u ∧ Sl W u (intVals zss[i]) := by
  obtain ⟨a', c', e, _, ho⟩ := h.shape
  rw [hv] at e
  simp only [Value.slice.injEq] at e
  obtain ⟨rfl, rfl, rfl⟩ := e
  obtain ⟨b, off, u, e2, _, hb, hc, hs⟩ := ho i _ (List.getElem?_eq_getElem hi)
  exact ⟨b, off, u, e2, hb, hc, hs⟩

/-- The slice v and its rows lie in blocks of their own between lo and hi, no two in one; it reads as zss. T: the type of a row. -/
def OwR (T e : TypeId) (lo hi : Nat) (w : World) (v : Value) (zss : List (List Int)) : Prop :=
  ∃ vs : List Value, vs.length = zss.length ∧ OwnV T lo hi w v vs ∧ (∀ (i : Nat) u zs, vs[i]? = some u → zss[i]? = some zs → OwnV e lo hi w u (intVals zs)) ∧
    (∀ (i j : Nat) u u' b, i ≠ j → vs[i]? = some u → vs[j]? = some u' → u.ownBlock = some b → u'.ownBlock ≠ some b) ∧ (∀ (i : Nat) u b, vs[i]? = some u → u.ownBlock = some b → v.ownBlock ≠ some b)
theorem OwR.rw {T e : TypeId} {lo hi : Nat} {w : World} {v : Value} {zss : List (List Int)} (h : OwR T e lo hi w v zss) : Rw w v zss := by
  obtain ⟨vs, h1, h2, h3, _⟩ := h
  exact ⟨vs, h1, h2.sl, fun i u zs hu hz => (h3 i u zs hu hz).sl⟩
theorem OwR.kept {T e : TypeId} {lo hi a b : Nat} {w w' : World} {v : Value} {zss : List (List Int)} (h : OwR T e lo hi w v zss) (hk : Kept a b w w') (hd : hi ≤ a ∨ b ≤ lo) : OwR T e lo hi w' v zss := by
  obtain ⟨vs, h1, h2, h3, h4, h5⟩ := h
  exact ⟨vs, h1, h2.kept hk hd, fun i u zs hu hz => (h3 i u zs hu hz).kept hk hd, h4, h5⟩
theorem OwR.below {T e : TypeId} {lo hi : Nat} {w w' : World} {v : Value} {zss : List (List Int)} (h : OwR T e lo hi w v zss) (hb : Below w.heap.size w w') : OwR T e lo hi w' v zss :=
  h.kept (Kept.of_below (lo := hi) (hi := hi) hb) (.inl (Nat.le_refl _))
theorem OwR.mono {T e : TypeId} {lo hi lo' hi' : Nat} {w : World} {v : Value} {zss : List (List Int)} (h : OwR T e lo hi w v zss) (h1 : lo' ≤ lo) (h2 : hi ≤ hi') : OwR T e lo' hi' w v zss := by
  obtain ⟨vs, k1, k2, k3, k4, k5⟩ := h
  exact ⟨vs, k1, k2.mono h1 h2, fun i u zs hu hz => (k3 i u zs hu hz).mono h1 h2, k4, k5⟩
theorem OwR.nil {T e : TypeId} {lo hi : Nat} {w : World} : OwR T e lo hi w (.slice none 0 0) [] :=
  ⟨[], rfl, OwnV.nil, fun i u zs hu => by simp at hu, fun i j u u' b _ hu => by simp at hu, fun i u b hu => by simp at hu⟩
theorem OwR.len {T e : TypeId} {lo hi : Nat} {w : World} {v : Value} {zss : List (List Int)} (h : OwR T e lo hi w v zss) : zss.length ≤ maxLen := h.rw.len
/-- A step that changes one block alone leaves every row that lies elsewhere. -/
theorem OwnV.far {e : TypeId} {lo hi g : Nat} {w w' : World} {v : Value} {xs : List Value} (h : OwnV e lo hi w v xs) (hk : Kept g (g + 1) w w') (hne : v.ownBlock ≠ some g) : OwnV e lo hi w' v xs := by
  rcases h with h | ⟨b, cap, cur, rfl, h1, h2, hb, hr⟩
  · exact .inl h
  · have hbg : b ≠ g := fun e => hne (by simp [Value.ownBlock, e])
    exact .inr ⟨b, cap, cur, rfl, h1, h2, by rw [hk.block b (lt_of_heap hb) (by omega)]; exact hb, hr⟩
theorem OwnV.place {e : TypeId} {lo hi : Nat} {w : World} {v : Value} {xs : List Value} (h : OwnV e lo hi w v xs) {b : Nat} (hb : v.ownBlock = some b) : lo ≤ b ∧ b < hi ∧ b < w.heap.size := by
  rcases h with ⟨_, rfl⟩ | ⟨g, cap, cur, rfl, h1, h2, hg, _⟩
  · cases hb
  · simp only [Value.ownBlock, Option.some.injEq] at hb
    subst hb
    exact ⟨h1, h2, lt_of_heap hg⟩

theorem lt_of_get {α : Type} {l : List α} {i : Nat} {x : α} (h : l[i]? = some x) : i < l.length := by
  by_cases hh : i < l.length
  · exact hh
  · rw [List.getElem?_eq_none (by omega)] at h; cases h
theorem get_set {α : Type} (l : List α) (k i : Nat) (x : α) (hk : k < l.length) : (l.set k x)[i]? = if i = k then some x else l[i]? := by
  rw [List.getElem?_set]
  by_cases hi : k = i
  · subst hi; simp [hk]
  · rw [if_neg hi, if_neg (fun e => hi e.symm)]
theorem kept_far {w w' : World} {u : Value} (hk : ∀ g, (∀ x, u.ownBlock = some x → x = g) → Kept g (g + 1) w w') {e : TypeId} {lo hi : Nat} {v : Value} {xs : List Value} (h : OwnV e lo hi w v xs) (hne : ∀ b, u.ownBlock = some b → v.ownBlock ≠ some b) : OwnV e lo hi w' v xs := by
  cases hub : u.ownBlock with
  | none => exact h.far (hk (lo + hi + w.heap.size) (fun b hb => by rw [hub] at hb; cases hb)) (fun hv => by have := (h.place hv); omega)
  | some b => exact h.far (hk b (fun b' hb' => by rw [hub] at hb'; exact (Option.some.inj hb').symm)) (hne b hub)
/-- Row j: its cell, its numbers; a step that changes this row alone changes the whole in this place alone. -/
theorem OwR.at {T e : TypeId} {lo hi : Nat} {w : World} {v : Value} {zss : List (List Int)} (h : OwR T e lo hi w v zss) (j : Nat) (hj : j < zss.length) {a : Option Addr} {n c : Nat} (hv : v = .slice a n c) :
    ∃ (b : Nat) (u : Value), a = some ⟨b, 0, none⟩ ∧ lo ≤ b ∧ b < hi ∧ b < w.heap.size ∧ w.cell? ⟨b, j, none⟩ = some u ∧ w.frozen? ⟨b, j, none⟩ = false ∧ OwnV e lo hi w u (intVals zss[j]) ∧ u.ownBlock ≠ some b ∧
      ∀ w' ys, OwnV e lo hi w' u (intVals ys) → (∀ g, (∀ x, u.ownBlock = some x → x = g) → Kept g (g + 1) w w') → OwR T e lo hi w' v (zss.set j ys) := by
  obtain ⟨vs, h1, h2, h3, h4, h5⟩ := h
  have hjv : j < vs.length := by omega
  have hu : vs[j]? = some vs[j] := List.getElem?_eq_getElem hjv
  obtain ⟨b, cap, e1, hb1, hb2⟩ := h2.form (by omega)
  rw [hv] at e1
  simp only [Value.slice.injEq] at e1
  obtain ⟨rfl, rfl, rfl⟩ := e1
  have hvb : v.ownBlock = some b := by rw [hv]; rfl
  have hlt := (h2.place hvb).2.2
  have ho := h2.owns
  rw [hv] at ho
  refine ⟨b, vs[j], rfl, hb1, hb2, hlt, ?_, ho.frozenAt j, h3 j _ _ hu (List.getElem?_eq_getElem hj), ?_, ?_⟩
  · rw [ho.cellAt j (by omega)]; exact hu
  · intro hub; exact h5 j _ b hu hub hvb
  · intro w' ys hys hk
    refine ⟨vs, by rw [List.length_set, h1], kept_far hk h2 (fun b hb => h5 j _ b hu hb), ?_, h4, h5⟩
    intro i x zs hx hz
    rw [get_set _ _ _ _ hj] at hz
    split at hz
    · rename_i hij
      subst hij
      rw [hu] at hx
      obtain rfl := Option.some.inj hx
      obtain rfl := Option.some.inj hz
      exact hys
    · rename_i hij
      exact kept_far hk (h3 i x zs hx hz) (fun b hb => h4 j i _ x b (fun e => hij e.symm) hu hx hb)
/-- Another row is put in place j: one that lies in a block of its own. -/
theorem OwR.put {T e : TypeId} {lo hi : Nat} {w : World} {zss : List (List Int)} {b n c : Nat} (h : OwR T e lo hi w (.slice (some ⟨b, 0, none⟩) n c) zss) (j : Nat) (hj : j < zss.length) {u : Value} {ys : List Int}
    (hu : OwnV e lo hi w u (intVals ys)) (hne : ∀ x, u.ownBlock = some x → x ≠ b ∧ ∀ (i : Nat) r, w.cell? ⟨b, i, none⟩ = some r → r.ownBlock ≠ some x) :
    OwR T e lo hi (w.setCell ⟨b, j, none⟩ u) (.slice (some ⟨b, 0, none⟩) n c) (zss.set j ys) := by
  obtain ⟨vs, h1, h2, h3, h4, h5⟩ := h
  have hjv : j < vs.length := by omega
  obtain ⟨b', cap, e1, hb1, hb2⟩ := h2.form (by omega)
  simp only [Value.slice.injEq, Option.some.injEq, Addr.mk.injEq] at e1
  obtain ⟨⟨rfl, _, _⟩, rfl, rfl⟩ := e1
  have ho := h2.owns
  have hst := (ho.stored j u).1
  have hkept : Kept b (b + 1) w (w.setCell ⟨b, j, none⟩ u) := (Kept.refl b (b + 1) w).setCell (p := ⟨b, j, none⟩) (Nat.le_refl _) (Nat.lt_succ_self _) u
  have hcell : ∀ i r, vs[i]? = some r → w.cell? ⟨b, i, none⟩ = some r := fun i r hr => by rw [ho.cellAt i (by have := lt_of_get hr; omega)]; exact hr
  have hown2 : OwnV T lo hi (w.setCell ⟨b, j, none⟩ u) (.slice (some ⟨b, 0, none⟩) vs.length c) (vs.set j u) := by
    have h6 := OwnV.of_owns hst
    rcases h6 with ⟨h7, _⟩ | ⟨g, cap, cur, e2, h8, _, h9⟩
    · have h8 := congrArg List.length h7
      rw [List.length_set, List.length_nil] at h8
      omega
    · simp only [Value.slice.injEq, Option.some.injEq, Addr.mk.injEq] at e2
      obtain ⟨⟨rfl, _, _⟩, e3, rfl⟩ := e2
      exact .inr ⟨b, c, cur, by rw [List.length_set], hb1, hb2, h9⟩
  refine ⟨vs.set j u, by rw [List.length_set, List.length_set, h1], hown2, ?_, ?_, ?_⟩
  · intro i x zs hx hz
    rw [get_set _ _ _ _ hjv] at hx
    rw [get_set _ _ _ _ hj] at hz
    split at hx
    · rename_i hij
      rw [if_pos hij] at hz
      obtain rfl := Option.some.inj hx
      obtain rfl := Option.some.inj hz
      exact hu.far hkept (fun hub => (hne b hub).1 rfl)
    · rename_i hij
      rw [if_neg hij] at hz
      exact (h3 i x zs hx hz).far hkept (fun hub => h5 i x b hx hub rfl)
  · intro i k x y q hik hx hy hxq
    rw [get_set _ _ _ _ hjv] at hx hy
    split at hx
    · rename_i hij
      rw [if_neg (by omega)] at hy
      obtain rfl := Option.some.inj hx
      exact (hne q hxq).2 k y (hcell k y hy)
    · split at hy
      · obtain rfl := Option.some.inj hy
        intro hyq
        exact (hne q hyq).2 i x (hcell i x hx) hxq
      · exact h4 i k x y q hik hx hy hxq
  · intro i x q hx hxq
    rw [get_set _ _ _ _ hjv] at hx
    split at hx
    · obtain rfl := Option.some.inj hx
      intro hb
      have : b = q := by simpa [Value.ownBlock] using hb
      exact (hne q hxq).1 this.symm
    · exact h5 i x q hx hxq

/-- How many integers there are. -/
def tot (zss : List (List Int)) : Nat := (zss.map List.length).sum
theorem tot_take {zss : List (List Int)} {k : Nat} (h : k < zss.length) : tot (zss.take (k + 1)) = tot (zss.take k) + zss[k].length := by
  unfold tot
  rw [List.take_succ_eq_append_getElem h, List.map_append, List.sum_append]; simp
theorem tot_take_le (zss : List (List Int)) (k : Nat) : tot (zss.take k) ≤ tot zss := by
  unfold tot
  conv => rhs; rw [← List.take_append_drop k zss, List.map_append, List.sum_append]
  omega
theorem row_le_tot {zss : List (List Int)} {k : Nat} (h : k < zss.length) : zss[k].length ≤ tot zss := by
  have h1 := tot_take h
  have h2 := tot_take_le zss (k + 1)
  omega
/-- What szIntSS answers. -/
def szR (zss : List (List Int)) (left : Int) : Int := if left < zss.length + tot zss then -1 else left - zss.length - tot zss

section
variable {H : Type} {enc : TypeId × Value → H} {P : Program}
/-- What came in as a slice of integers. -/
theorem sl_of_trod {k : IntKind} {W : World} {base : Nat} {sp : Nat → Bool} {held : Bool} {t e : TypeId} {fuel : Nat} {v : Value} {x : DataW H × List MemPlace}
    (ht : P.underlying t = some (.slice e)) (he : P.underlying e = some (.int k)) (hc : P.cellsOf e = 1)
    (h : DataW.trod enc P W base sp held fuel t [v] = some x) :
    ∃ zs : List Int, Sl W v (numVals k zs) ∧ ∀ z ∈ zs, (Lit.int k z).wf = true := by
  rcases open_ints ht he hc h with ⟨hcs, _⟩ | ⟨a', len', cap', zs, hcs, _⟩
  · simp only [List.cons.injEq, and_true] at hcs
    subst hcs
    obtain ⟨zs, _, h2, h3⟩ := nums_came ht he hc h
    exact ⟨zs, h2, h3⟩
  · simp only [List.cons.injEq, and_true] at hcs
    subst hcs
    obtain ⟨zs, _, h2, h3⟩ := nums_came ht he hc h
    exact ⟨zs, h2, h3⟩
/-- What came in as a slice of slices of integers. -/
theorem rows_came {W : World} {base : Nat} {sp : Nat → Bool} {held : Bool} {t e q : TypeId} {fuel : Nat} {a : Option Addr} {len cap : Nat} {x : DataW H × List MemPlace}
    (ht : P.underlying t = some (.slice e)) (he : P.underlying e = some (.slice q)) (hq : P.underlying q = some (.int .i64)) (ce : P.cellsOf e = 1) (cq : P.cellsOf q = 1)
    (h : DataW.trod enc P W base sp held fuel t [.slice a len cap] = some x) :
    ∃ zss : List (List Int), zss.length = len ∧ Rw W (.slice a len cap) zss ∧ ∀ zs ∈ zss, ∀ z ∈ zs, (Lit.int .i64 z).wf = true := by
  rcases open_slice1 ht ce h with ⟨hcs, _⟩ | ⟨a', len', cap', m, n, V, D, Pl, hcs, hb, hl, hm, hmm, _, hx⟩
  · simp only [List.cons.injEq, Value.slice.injEq, and_true] at hcs
    obtain ⟨rfl, rfl, rfl⟩ := hcs
    exact ⟨[], rfl, ⟨[], rfl, .inl ⟨rfl, _, _, rfl⟩, fun i u zs hu => by simp at hu⟩, by simp⟩
  · simp only [List.cons.injEq, Value.slice.injEq, and_true] at hcs
    obtain ⟨rfl, rfl, rfl⟩ := hcs
    have hle : len ≤ m := by rw [hmm]; split <;> omega
    have each : ∀ i, i < len → ∃ zs : List Int, Sl W (V i) (numVals .i64 zs) ∧ ∀ z ∈ zs, (Lit.int .i64 z).wf = true := fun i hi => sl_of_trod he hq cq (hx i (by omega)).2
    obtain ⟨Z, hZ⟩ := choose_lt each
    refine ⟨(List.range len).map Z, by simp, ⟨(List.range len).map V, by simp, sl_of_cells (by simp) hl hm ?_, ?_⟩, ?_⟩
    · intro i u hu
      rw [List.getElem?_map] at hu
      by_cases hi : i < len
      · rw [List.getElem?_range hi] at hu
        simp only [Option.map_some, Option.some.injEq] at hu
        rw [← hu]; exact (hx i (by omega)).1
      · rw [List.getElem?_eq_none (by simpa using hi)] at hu; cases hu
    · intro i u zs hu hz
      rw [List.getElem?_map] at hu hz
      by_cases hi : i < len
      · rw [List.getElem?_range hi] at hu hz
        simp only [Option.map_some, Option.some.injEq] at hu hz
        subst hu; subst hz
        exact (hZ i hi).1
      · rw [List.getElem?_eq_none (by simpa using hi)] at hu; cases hu
    · intro zs hz
      obtain ⟨i, hi, rfl⟩ := List.mem_map.1 hz
      exact (hZ i (by simpa using hi)).2
end

/-- Rows of marks from k on. -/
def rmarks : Nat → List (List Int) → List (List Int)
  | _, [] => []
  | k, r :: rs => (List.range r.length).map (fun i => ((k + i : Nat) : Int)) :: rmarks (k + r.length) rs
theorem rmarks_len : ∀ (k : Nat) (zss : List (List Int)), (rmarks k zss).length = zss.length
  | _, [] => rfl
  | k, r :: rs => by simp [rmarks, rmarks_len]
theorem rmarks_get : ∀ (k : Nat) (zss : List (List Int)) (j : Nat) (h : j < zss.length), (rmarks k zss)[j]? = some ((List.range zss[j].length).map fun i => ((k + tot (zss.take j) + i : Nat) : Int))
  | k, [], j, h => by simp at h
  | k, r :: rs, 0, _ => by simp [rmarks, tot]
  | k, r :: rs, j + 1, h => by
    have ih := rmarks_get (k + r.length) rs j (by simpa using h)
    simp only [rmarks, List.getElem?_cons_succ, List.getElem_cons_succ]
    rw [ih]
    simp only [List.take_succ_cons, tot, List.map_cons, List.sum_cons, Nat.add_assoc]
theorem rmarks_tot : ∀ (k : Nat) (zss : List (List Int)), tot (rmarks k zss) = tot zss
  | _, [] => rfl
  | k, r :: rs => by
    have := rmarks_tot (k + r.length) rs
    simp only [tot, rmarks, List.map_cons, List.sum_cons, List.length_map, List.length_range] at this ⊢
    omega
end Go.Proofs.YtflkalgofkpdbaaDoor
