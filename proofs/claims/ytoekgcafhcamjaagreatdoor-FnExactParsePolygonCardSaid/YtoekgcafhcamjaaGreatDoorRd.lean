/- The model's l1Read: the integer of at most so many digits whose numeral the text is. -/
import Derived.Test.YtoekgcafhcamjaaGreatDoorCom
import Derived.Test.YtoekgcafhcamjaaGreatDoorRdNum
import Derived.Test.YtoekgcafhcamjaaGreatDoorFi
namespace Go.Proofs.YtoekgcafhcamjaaGreatDoor
open Go.RowKit Go.Lib

/-- How a reading ends. -/
def RdEnd (most : Nat) (l : List UInt8) (W : World) (e : Ending) (w' : World) : Prop :=
  ((∃ n, Rd most l n ∧ e = .returned (.tuple #[.int .i64 n, .bool true])) ∨ ((∀ n, ¬ Rd most l n) ∧ e = .returned (.tuple #[.int .i64 0, .bool false]))) ∧ Below W.heap.size W w'

theorem val_step (s : ByteArray) (k : Nat) (h : k < s.size) : val (s.data.toList.take (k + 1)) = val (s.data.toList.take k) * 10 + (s[k].toNat - 48) := by
  rw [List.take_succ_eq_append_getElem (by simpa using h), val_snoc]; rfl
theorem dig_step (s : ByteArray) (k : Nat) (h : k < s.size) (hd : ∀ c ∈ s.data.toList.take k, isDig c) (hc : isDig s[k]) : ∀ c ∈ s.data.toList.take (k + 1), isDig c := by
  rw [List.take_succ_eq_append_getElem (by simpa using h)]
  intro c hc'
  rw [List.mem_append, List.mem_singleton] at hc'
  rcases hc' with h1 | h1
  · exact hd c h1
  · subst h1; exact hc
theorem byte_mem (s : ByteArray) (k : Nat) (h : k < s.size) : s[k] ∈ s.data.toList := by
  have : s[k] = s.data.toList[k]'(by simpa using h) := rfl
  rw [this]; exact List.getElem_mem _
theorem val_take_lt (s : ByteArray) (k : Nat) (hk : k ≤ 12) (hd : ∀ c ∈ s.data.toList.take k, isDig c) : val (s.data.toList.take k) < 1000000000000 := by
  have h1 := val_lt _ _ rfl hd
  have h2 : (s.data.toList.take k).length ≤ 12 := by rw [List.length_take]; omega
  have h3 : 10 ^ (s.data.toList.take k).length ≤ 10 ^ 12 := Nat.pow_le_pow_right (by omega) h2
  omega
theorem rd_end_no {most : Nat} {l : List UInt8} {W w' : World} (h : ∀ n, ¬ Rd most l n) (hb : Below W.heap.size W w') : RdEnd most l W (.returned (.tuple #[.int .i64 0, .bool false])) w' := ⟨.inr ⟨h, rfl⟩, hb⟩
theorem rd_end_yes {most : Nat} {l : List UInt8} {W w' : World} {n : Int} (h : Rd most l n) (hb : Below W.heap.size W w') : RdEnd most l W (.returned (.tuple #[.int .i64 n, .bool true])) w' := ⟨.inl ⟨n, h, rfl⟩, hb⟩


set_option maxRecDepth 100000 in
set_option maxHeartbeats 400000 in
theorem rd_plain (s : ByteArray) (most : Nat) (hm1 : 1 ≤ most) (hm2 : most ≤ 12) (hp : Parts s.data.toList s.data.toList false) (h1 : 0 < s.size) (h2 : s.size ≤ most) (w : World) :
    Calls Tryz.prog 128 #[.string s, .int .i64 most] w (RdEnd most s.data.toList w) := by
  have hgt : decide (most < s.size) = false := by simp; omega
  have h45 : ((s[0].toNat : Int) == 45) = false := by
    rcases hp with ⟨h, _⟩ | ⟨_, _, h⟩
    · cases h
    · have hne : s.data.toList = s[0] :: s.data.toList.tail := by
        cases hl : s.data.toList with
        | nil => have := congrArg List.length hl; simp at this; have h3 : s.size = s.data.size := rfl; rw [h3, this] at h1; simp at h1
        | cons a t => simp only [List.tail_cons, List.cons.injEq, and_true]; show a = s.data.toList[0]'_; simp [hl]
      have := h _ _ hne
      rw [beq_eq_false_iff_ne]
      intro e
      exact this (UInt8.toNat_inj.1 (by rw [show (45 : UInt8).toNat = 45 from rfl]; omega))
  have HP := Lib.hid hp
  clear hp
  go_enter Tryz.func128, Tryz.ntmps128
  go_wp2
  go_loop [8, 9] (fun n i => ∃ k : Nat, k ≤ s.size ∧ i = .int .i64 k ∧ n = .int .i64 (val (s.data.toList.take k)) ∧ ∀ c ∈ s.data.toList.take k, isDig c) (fun _ i => s.size - (intOf i).toNat)
  case atStart => exact ⟨0, Nat.zero_le _, rfl, rfl, by simp⟩
  case round =>
    obtain ⟨k, hk, rfl, rfl, hd⟩ := hrel
    have hv := val_take_lt s k (by omega) hd
    by_cases hlt : k < s.size
    · have HS := Lib.hid (val_step s k hlt)
      have HD := Lib.hid hd
      clear hd
      by_cases hc : isDig s[k]
      · have hc1 : decide ((s[k].toNat : Int) < 48) = false := by unfold isDig at hc; simp; omega
        have hc2 : decide ((57 : Int) < (s[k].toNat : Int)) = false := by unfold isDig at hc; simp; omega
        have HC := Lib.hid hc
        clear hc
        go_wp2
        refine ⟨⟨k + 1, by omega, by go_num, ?_, dig_step s k hlt HD.out HC.out⟩, by simp [intOf]; omega⟩
        have hb := HC.out
        unfold isDig at hb
        rw [HS.out]
        exact int_eq (by omega)
      · have hno := rd_none_dig HP.out hm1 (byte_mem s k hlt) hc
        have HN := Lib.hid hno
        clear hno
        by_cases hc1 : s[k].toNat < 48
        · have hc1' : decide ((s[k].toNat : Int) < 48) = true := by simp; omega
          go_wp2
          go_ret2
          exact rd_end_no HN.out (Below.refl _ _)
        · have hc1' : decide ((s[k].toNat : Int) < 48) = false := by simp; omega
          have hc2 : decide ((57 : Int) < (s[k].toNat : Int)) = true := by unfold isDig at hc; simp; omega
          go_wp2
          go_ret2
          exact rd_end_no HN.out (Below.refl _ _)
    · obtain rfl : k = s.size := by omega
      have htk : s.data.toList.take s.size = s.data.toList := List.take_of_length_le (by simp)
      obtain ⟨v, hv'⟩ : ∃ v, v = val (s.data.toList.take s.size) := ⟨_, rfl⟩
      rw [← hv'] at hv ⊢
      rw [htk] at hd hv'
      have HD := Lib.hid hd
      have HV := Lib.hid hv'
      clear hd hv' htk
      by_cases hfin : s.data.toList = itoa v
      · have hq : (!itoa (v : Int) == s.toList) = false := by rw [ByteArray.toList_eq, ← hfin]; simp
        have HF := Lib.hid hfin
        clear hfin
        go_wp2_with fail
        refine (fi_any v (by omega) (by omega) _).mono ?_
        rintro e w1 ⟨rfl, hb1⟩
        go_wp2_with fail
        go_ret2
        have hv2 := HV.out
        subst hv2
        exact rd_end_yes (rd_some HP.out HD.out (by simpa using h2) HF.out) hb1
      · have hq : (!itoa (v : Int) == s.toList) = true := by rw [ByteArray.toList_eq]; simpa using fun e => hfin e.symm
        have HF := Lib.hid hfin
        clear hfin
        go_wp2_with fail
        refine (fi_any v (by omega) (by omega) _).mono ?_
        rintro e w1 ⟨rfl, hb1⟩
        go_wp2_with fail
        go_ret2
        have hv2 := HV.out
        subst hv2
        exact rd_end_no (rd_none_ne HP.out hm1 HF.out) hb1
set_option maxRecDepth 100000 in
set_option maxHeartbeats 400000 in
theorem rd_minus (s T : ByteArray) (most : Nat) (hm1 : 1 ≤ most) (hm2 : most ≤ 12) (hT : s.extract 1 s.size = T) (hp : Parts s.data.toList T.data.toList true) (h1 : 0 < T.size) (h2 : T.size ≤ most) (w : World) :
    Calls Tryz.prog 128 #[.string s, .int .i64 most] w (RdEnd most s.data.toList w) := by
  have hgt : decide (most < T.size) = false := by simp; omega
  have hsz : T.size + 1 = s.size := by
    rcases hp with ⟨_, h⟩ | ⟨h, _⟩
    · have := congrArg List.length h
      simp only [List.length_cons, Array.length_toList] at this
      exact this.symm
    · cases h
  have h0 : 0 < s.size := by omega
  have h45 : ((s[0].toNat : Int) == 45) = true := by
    rcases hp with ⟨_, h⟩ | ⟨h, _⟩
    · have hne : s.data.toList[0]? = some 45 := by rw [h]; rfl
      have : s[0] = s.data.toList[0]'(by simpa using h0) := rfl
      rw [List.getElem?_eq_getElem (by simpa using h0)] at hne
      rw [this, Option.some.inj hne]; rfl
    · cases h
  have HSZ := Lib.hid hsz
  have hsz1 : T.size + 1 ≤ s.size := by omega
  have hsz2 : s.size ≤ T.size + 1 := by omega
  clear hsz
  have HP := Lib.hid hp
  clear hp
  go_enter Tryz.func128, Tryz.ntmps128
  go_wp2
  go_loop [8, 9] (fun n i => ∃ k : Nat, k ≤ T.size ∧ i = .int .i64 k ∧ n = .int .i64 (val (T.data.toList.take k)) ∧ ∀ c ∈ T.data.toList.take k, isDig c) (fun _ i => T.size - (intOf i).toNat)
  case atStart => exact ⟨0, Nat.zero_le _, rfl, rfl, by simp⟩
  case round =>
    obtain ⟨k, hk, rfl, rfl, hd⟩ := hrel
    have hv := val_take_lt T k (by omega) hd
    by_cases hlt : k < T.size
    · have HS := Lib.hid (val_step T k hlt)
      have HD := Lib.hid hd
      clear hd
      by_cases hc : isDig T[k]
      · have hc1 : decide ((T[k].toNat : Int) < 48) = false := by unfold isDig at hc; simp; omega
        have hc2 : decide ((57 : Int) < (T[k].toNat : Int)) = false := by unfold isDig at hc; simp; omega
        have HC := Lib.hid hc
        clear hc
        go_wp2
        refine ⟨⟨k + 1, by omega, by go_num, ?_, dig_step T k hlt HD.out HC.out⟩, by simp [intOf]; omega⟩
        have hb := HC.out
        unfold isDig at hb
        rw [HS.out]
        exact int_eq (by omega)
      · have hno := rd_none_dig HP.out hm1 (byte_mem T k hlt) hc
        have HN := Lib.hid hno
        clear hno
        by_cases hc1 : T[k].toNat < 48
        · have hc1' : decide ((T[k].toNat : Int) < 48) = true := by simp; omega
          go_wp2
          go_ret2
          exact rd_end_no HN.out (Below.refl _ _)
        · have hc1' : decide ((T[k].toNat : Int) < 48) = false := by simp; omega
          have hc2 : decide ((57 : Int) < (T[k].toNat : Int)) = true := by unfold isDig at hc; simp; omega
          go_wp2
          go_ret2
          exact rd_end_no HN.out (Below.refl _ _)
    · obtain rfl : k = T.size := by omega
      have htk : T.data.toList.take T.size = T.data.toList := List.take_of_length_le (by simp)
      obtain ⟨v, hv'⟩ : ∃ v, v = val (T.data.toList.take T.size) := ⟨_, rfl⟩
      rw [← hv'] at hv ⊢
      rw [htk] at hd hv'
      have HD := Lib.hid hd
      have HV := Lib.hid hv'
      clear hd hv' htk
      by_cases hfin : s.data.toList = itoa (-(v : Int))
      · have hq : (!itoa (-(v : Int)) == s.toList) = false := by rw [ByteArray.toList_eq, ← hfin]; simp
        have HF := Lib.hid hfin
        clear hfin
        go_wp2_with fail
        refine (fi_any (-(v : Int)) (by omega) (by omega) _).mono ?_
        rintro e w1 ⟨rfl, hb1⟩
        go_wp2_with fail
        go_ret2
        have hv2 := HV.out
        subst hv2
        exact rd_end_yes (rd_some HP.out HD.out (by simpa using h2) HF.out) hb1
      · have hq : (!itoa (-(v : Int)) == s.toList) = true := by rw [ByteArray.toList_eq]; simpa using fun e => hfin e.symm
        have HF := Lib.hid hfin
        clear hfin
        go_wp2_with fail
        refine (fi_any (-(v : Int)) (by omega) (by omega) _).mono ?_
        rintro e w1 ⟨rfl, hb1⟩
        go_wp2_with fail
        go_ret2
        have hv2 := HV.out
        subst hv2
        exact rd_end_no (rd_none_ne HP.out hm1 HF.out) hb1

set_option maxRecDepth 100000 in
set_option maxHeartbeats 400000 in
theorem rd_empty (s : ByteArray) (most : Nat) (hs : s.size = 0) (hno : ∀ n, ¬ Rd most s.data.toList n) (w : World) :
    Calls Tryz.prog 128 #[.string s, .int .i64 most] w (RdEnd most s.data.toList w) := by
  have HN := Lib.hid hno
  clear hno
  go_enter Tryz.func128, Tryz.ntmps128
  go_wp2
  go_ret2
  exact rd_end_no HN.out (Below.refl _ _)

set_option maxRecDepth 100000 in
set_option maxHeartbeats 400000 in
theorem rd_long (s : ByteArray) (most : Nat) (h0 : 0 < s.size) (hs : s.size ≤ maxLen) (h45 : ((s[0].toNat : Int) == 45) = false) (h2 : most < s.size) (hno : ∀ n, ¬ Rd most s.data.toList n) (w : World) :
    Calls Tryz.prog 128 #[.string s, .int .i64 most] w (RdEnd most s.data.toList w) := by
  unfold maxLen at hs
  have hgt : decide (most < s.size) = true := by simpa using h2
  have HN := Lib.hid hno
  clear hno
  go_enter Tryz.func128, Tryz.ntmps128
  go_wp2
  go_ret2
  exact rd_end_no HN.out (Below.refl _ _)

set_option maxRecDepth 100000 in
set_option maxHeartbeats 400000 in
theorem rd_minus_none (s T : ByteArray) (most : Nat) (hT : s.extract 1 s.size = T) (h0 : 0 < s.size) (h45 : ((s[0].toNat : Int) == 45) = true) (h2 : T.size = 0) (hno : ∀ n, ¬ Rd most s.data.toList n) (w : World) :
    Calls Tryz.prog 128 #[.string s, .int .i64 most] w (RdEnd most s.data.toList w) := by
  have HN := Lib.hid hno
  clear hno
  go_enter Tryz.func128, Tryz.ntmps128
  go_wp2
  go_ret2
  exact rd_end_no HN.out (Below.refl _ _)

set_option maxRecDepth 100000 in
set_option maxHeartbeats 400000 in
theorem rd_minus_long (s T : ByteArray) (most : Nat) (hT : s.extract 1 s.size = T) (h0 : 0 < s.size) (hs : T.size ≤ maxLen) (h45 : ((s[0].toNat : Int) == 45) = true) (h1 : 0 < T.size) (h2 : most < T.size) (hno : ∀ n, ¬ Rd most s.data.toList n) (w : World) :
    Calls Tryz.prog 128 #[.string s, .int .i64 most] w (RdEnd most s.data.toList w) := by
  unfold maxLen at hs
  have hgt : decide (most < T.size) = true := by simpa using h2
  have HN := Lib.hid hno
  clear hno
  go_enter Tryz.func128, Tryz.ntmps128
  go_wp2
  go_ret2
  exact rd_end_no HN.out (Below.refl _ _)

theorem rd_any (s : ByteArray) (most : Nat) (hm1 : 1 ≤ most) (hm2 : most ≤ 12) (hs : s.size ≤ maxLen) (w : World) :
    Calls Tryz.prog 128 #[.string s, .int .i64 most] w (RdEnd most s.data.toList w) := by
  have hlen := list_len s
  cases hl : s.data.toList with
  | nil =>
    rw [hl] at hlen
    have hp : Parts s.data.toList s.data.toList false := .inr ⟨rfl, rfl, by rw [hl]; intro c r h; cases h⟩
    rw [← hl]
    exact rd_empty s most (by simpa using hlen.symm) (rd_none_len hp hm1 (.inl (by rw [hl]; rfl))) w
  | cons c r =>
    rw [hl] at hlen
    simp only [List.length_cons] at hlen
    have h0 : 0 < s.size := by omega
    have hc : s[0] = c := by
      have : s[0] = s.data.toList[0]'(by rw [list_len]; exact h0) := rfl
      rw [this]; simp [hl]
    rw [← hl]
    by_cases h45 : c = 45
    · have hb : ((s[0].toNat : Int) == 45) = true := by rw [hc, h45]; rfl
      have hTl : (s.extract 1 s.size).data.toList = r := by
        rw [ByteArray.data_extract, Array.toList_extract, hl]
        simp [List.extract_eq_take_drop]
        rw [List.take_of_length_le]; omega
      have hp : Parts s.data.toList (s.extract 1 s.size).data.toList true := .inl ⟨rfl, by rw [hTl, hl, h45]⟩
      have hTs : (s.extract 1 s.size).size = r.length := by rw [← list_len, hTl]
      by_cases hz : r.length = 0
      · exact rd_minus_none s _ most rfl h0 hb (by omega) (rd_none_len hp hm1 (.inl (by rw [list_len]; omega))) w
      · by_cases hlg : most < r.length
        · exact rd_minus_long s _ most rfl h0 (by omega) hb (by omega) (by omega) (rd_none_len hp hm1 (.inr (by rw [list_len]; omega))) w
        · exact rd_minus s _ most hm1 hm2 rfl hp (by omega) (by omega) w
    · have hp : Parts s.data.toList s.data.toList false := .inr ⟨rfl, rfl, by rw [hl]; intro d t h; cases h; exact h45⟩
      have hb : ((s[0].toNat : Int) == 45) = false := by
        rw [hc, beq_eq_false_iff_ne]; intro e
        exact h45 (UInt8.toNat_inj.1 (by rw [show (45 : UInt8).toNat = 45 from rfl]; omega))
      by_cases hlg : most < s.size
      · exact rd_long s most h0 hs hb hlg (rd_none_len hp hm1 (.inr (by rw [list_len]; omega))) w
      · exact rd_plain s most hm1 hm2 hp h0 (by omega) w
end Go.Proofs.YtoekgcafhcamjaaGreatDoor
