/- The program's readInt: the integer of a range whose numeral the text is; else a panic. -/
import Derived.Test.YtoekgcafhcamjaaGreatDoorRdNum
import Derived.Test.YtoekgcafhcamjaaGreatDoorMaa
import Derived.Lib.SmallJoins
import Derived.Stop.LaidErr
import Derived.WalkKit
import Derived.WalkLawsBesides
import Derived.WalkSpells
import Derived.BigQuiet
import Derived.Deep.QuietTactic
import Derived.Lib.Hide
import Derived.LaidLaws
namespace Go.Proofs.YtoekgcafhcamjaaGreatDoor
open Go.RowKit Go.Lib

/-- The library's table of powers. -/
def HasPow (w : World) : Prop := Lib.TabIs Tryz.prog w "internal/strconv.uint64pow10" .u64 Lib.pow10Tab
/-- What the program's package variables hold: the table of powers, the two errors. -/
structure Vars (w : World) : Prop where
  pow : Lib.TabIs Tryz.prog w "internal/strconv.uint64pow10" .u64 Lib.pow10Tab
  syn : ∃ (tp : TypeId) (p : Value), w.var? Tryz.prog "strconv.ErrSyntax" = some #[.iface tp p]
  ran : ∃ (tp : TypeId) (p : Value), w.var? Tryz.prog "strconv.ErrRange" = some #[.iface tp p]
theorem gPow : Tryz.prog.globalNamed "internal/strconv.uint64pow10" = some 0 := by kernel_rfl
theorem gSyn : Tryz.prog.globalNamed "strconv.ErrSyntax" = some 4 := by kernel_rfl
theorem gRan : Tryz.prog.globalNamed "strconv.ErrRange" = some 5 := by kernel_rfl
theorem var_lt {P : Program} {w : World} {n : String} {cs : Array Value} {g : Nat} (hg : P.globalNamed n = some g) (h : w.var? P n = some cs) : g < w.heap.size := by
  unfold World.var? at h
  simp only [hg, Option.bind_some] at h
  by_cases hlt : g < w.heap.size
  · exact hlt
  · rw [Array.getElem?_eq_none (by omega)] at h
    simp at h
theorem HasPow.below {w w' : World} (h : HasPow w) (hb : Below w.heap.size w w') : HasPow w' := var?_below hb gPow (var_lt gPow h) h
theorem Vars.below {w w' : World} (h : Vars w) (hb : Below w.heap.size w w') : Vars w' := by
  obtain ⟨h1, ⟨t2, p2, h2⟩, ⟨t3, p3, h3⟩⟩ := h
  exact ⟨var?_below hb gPow (var_lt gPow h1) h1, ⟨t2, p2, var?_below hb gSyn (var_lt gSyn h2) h2⟩, ⟨t3, p3, var?_below hb gRan (var_lt gRan h3) h3⟩⟩

theorem below_grow' (B : Nat) (w : World) (hB : B ≤ w.heap.size) (k : Nat) (os : Array Obj) : Below B w (Sort.grow (w.drewN k) os) :=
  ⟨rfl, rfl, rfl, by show w.heap.size ≤ (w.heap ++ os).size; rw [Array.size_append]; omega, fun j hj => by
    show (w.heap ++ os)[j]? = w.heap[j]?
    rw [Array.getElem?_append_left (by omega)]⟩

/-- impl.FormatInt. -/
theorem ifi (n : Int) (h0 : -9223372036854775808 ≤ n) (h1 : n ≤ 9223372036854775807) (w : World) (hv : HasPow w) :
    Calls Tryz.prog 57 #[.int .i64 n] w fun e w' => e = .returned (.string ⟨(itoa n).toArray⟩) ∧ Below w.heap.size w w' := by
  have htab : Lib.TabIs Tryz.prog w "internal/strconv.uint64pow10" .u64 Lib.pow10Tab := hv
  go_enter Tryz.func57, Tryz.ntmps57
  go_wp2_with (go_at_call 93; refine (Tryz.strconv_Itoa n h0 h1 _ htab).mono ?_; rintro e w' ⟨rfl, k, os, rfl⟩)
  go_ret
  exact ⟨rfl, below_grow' _ _ (Nat.le_refl _) _ _⟩

theorem atoi_ok (s : ByteArray) (hs : s.size ≤ 1048576) (v : Int) (h : Lib.atoiAll s.data.toList = .ok v) (w : World) :
    Calls Tryz.prog 156 #[.string s] w fun e w' => e = .returned (.tuple #[.int .i64 v, .nilIface]) ∧ Below w.heap.size w w' :=
  (Any.strconv_Atoi_ok Tryz.laysC172 s (by omega) v h w).mono fun e w' ⟨he, hw⟩ => ⟨he, by
    rcases hw with rfl | ⟨t, rfl⟩
    · exact Below.refl _ _
    · exact Go.Joins.below_bytesWorld _ _ _ _ (Nat.le_refl _)⟩
theorem atoi_bad (s : ByteArray) (hs : s.size ≤ 1048576) (h : ∀ v, Lib.atoiAll s.data.toList ≠ .ok v) (w : World) (hv : Vars w) :
    Calls Tryz.prog 156 #[.string s] w fun e w' => ∃ (z : Int) (N : Addr), e = .returned (.tuple #[.int .i64 z, .iface 194 (.pointer (some N))]) ∧ Below w.heap.size w w' := by
  cases hc : Lib.atoiAll s.data.toList with
  | ok v => exact absurd hc (h v)
  | _ =>
    first
    | (obtain ⟨tp, p, hvar⟩ := hv.syn
       exact (Any.strconv_Atoi_syntax_var Tryz.laysC172 s (by omega) hc tp p w hvar).mono fun e w' ⟨N, he, _, _, hb⟩ => ⟨0, ⟨N, 0, none⟩, he, hb⟩)
    | (obtain ⟨tp, p, hvar⟩ := hv.ran
       exact (Any.strconv_Atoi_range_var Tryz.laysC172 s (by omega) hc tp p w hvar).mono fun e w' ⟨N, he, _, _, hb⟩ => ⟨_, ⟨N, 0, none⟩, he, hb⟩)

/-- A panic of a text. -/
def Fell (W : World) (e : Ending) (w' : World) : Prop := (∃ pv, e = .panicked [{ v := .iface 9 pv, recovered := false }]) ∧ Below W.heap.size W w'

set_option maxRecDepth 100000 in
set_option maxHeartbeats 400000 in
theorem ri_bad (s : ByteArray) (hs : s.size ≤ 1048576) (least most : Int) (h : ∀ v, Lib.atoiAll s.data.toList ≠ .ok v) (w : World) (hv : Vars w) :
    Calls Tryz.prog 135 #[.string s, .int .i64 least, .int .i64 most] w (Fell w) := by
  have H := Lib.hid h
  clear h
  go_enter Tryz.func135, Tryz.ntmps135
  go_wp2_with fail
  refine (atoi_bad s hs H.out _ hv).mono ?_
  rintro e w1 ⟨z, N, rfl, hb⟩
  go_wp2_with fail
  exact ⟨rfl, ⟨_, rfl⟩, hb⟩

set_option maxRecDepth 100000 in
set_option maxHeartbeats 400000 in
theorem ri_ne (s : ByteArray) (hs : s.size ≤ 1048576) (least most : Int) (v : Int) (h : Lib.atoiAll s.data.toList = .ok v) (hne : ¬ s.data.toList = itoa v) (w : World) (hv : Vars w) :
    Calls Tryz.prog 135 #[.string s, .int .i64 least, .int .i64 most] w (Fell w) := by
  have hb64 := Lib.atoiAll_bounds h
  have hq : (!itoa v == s.toList) = true := by rw [ByteArray.toList_eq]; simpa using fun e => hne e.symm
  have H := Lib.hid h
  clear h hne
  go_enter Tryz.func135, Tryz.ntmps135
  go_wp2_with fail
  refine (atoi_ok s hs v H.out _).mono ?_
  rintro e w1 ⟨rfl, hb⟩
  go_wp2_with fail
  refine (ifi v hb64.1 hb64.2 _ (hv.below hb).pow).mono ?_
  rintro e w2 ⟨rfl, hb2⟩
  go_wp2_with fail
  exact ⟨rfl, ⟨_, rfl⟩, hb.trans (hb2.mono hb.size)⟩

set_option maxRecDepth 100000 in
set_option maxHeartbeats 400000 in
theorem ri_low (s : ByteArray) (hs : s.size ≤ 1048576) (least most : Int) (v : Int) (h : Lib.atoiAll s.data.toList = .ok v) (heq : s.data.toList = itoa v) (hl : v < least) (w : World) (hv : Vars w) :
    Calls Tryz.prog 135 #[.string s, .int .i64 least, .int .i64 most] w (Fell w) := by
  have hb64 := Lib.atoiAll_bounds h
  have hq : (!itoa v == s.toList) = false := by rw [ByteArray.toList_eq, ← heq]; simp
  have H := Lib.hid h
  clear h heq
  go_enter Tryz.func135, Tryz.ntmps135
  go_wp2_with fail
  refine (atoi_ok s hs v H.out _).mono ?_
  rintro e w1 ⟨rfl, hb⟩
  go_wp2_with fail
  refine (ifi v hb64.1 hb64.2 _ (hv.below hb).pow).mono ?_
  rintro e w2 ⟨rfl, hb2⟩
  go_wp2_with fail
  exact ⟨rfl, ⟨_, rfl⟩, hb.trans (hb2.mono hb.size)⟩

set_option maxRecDepth 100000 in
set_option maxHeartbeats 400000 in
theorem ri_high (s : ByteArray) (hs : s.size ≤ 1048576) (least most : Int) (v : Int) (h : Lib.atoiAll s.data.toList = .ok v) (heq : s.data.toList = itoa v) (hl : least ≤ v) (hg : most < v) (w : World) (hv : Vars w) :
    Calls Tryz.prog 135 #[.string s, .int .i64 least, .int .i64 most] w (Fell w) := by
  have hb64 := Lib.atoiAll_bounds h
  have hq : (!itoa v == s.toList) = false := by rw [ByteArray.toList_eq, ← heq]; simp
  have H := Lib.hid h
  clear h heq
  go_enter Tryz.func135, Tryz.ntmps135
  go_wp2_with fail
  refine (atoi_ok s hs v H.out _).mono ?_
  rintro e w1 ⟨rfl, hb⟩
  go_wp2_with fail
  refine (ifi v hb64.1 hb64.2 _ (hv.below hb).pow).mono ?_
  rintro e w2 ⟨rfl, hb2⟩
  go_wp2_with fail
  exact ⟨rfl, ⟨_, rfl⟩, hb.trans (hb2.mono hb.size)⟩

set_option maxRecDepth 100000 in
set_option maxHeartbeats 400000 in
theorem ri_ret (s : ByteArray) (hs : s.size ≤ 1048576) (least most : Int) (v : Int) (h : Lib.atoiAll s.data.toList = .ok v) (heq : s.data.toList = itoa v) (hl : least ≤ v) (hg : v ≤ most) (w : World) (hv : Vars w) :
    Calls Tryz.prog 135 #[.string s, .int .i64 least, .int .i64 most] w fun e w' => e = .returned (.int .i64 v) ∧ Below w.heap.size w w' := by
  have hb64 := Lib.atoiAll_bounds h
  have hq : (!itoa v == s.toList) = false := by rw [ByteArray.toList_eq, ← heq]; simp
  have H := Lib.hid h
  clear h heq
  go_enter Tryz.func135, Tryz.ntmps135
  go_wp2_with fail
  refine (atoi_ok s hs v H.out _).mono ?_
  rintro e w1 ⟨rfl, hb⟩
  go_wp2_with fail
  refine (ifi v hb64.1 hb64.2 _ (hv.below hb).pow).mono ?_
  rintro e w2 ⟨rfl, hb2⟩
  go_wp2_with fail
  go_ret
  exact ⟨rfl, hb.trans (hb2.mono hb.size)⟩

/-- The closures that are deferred: the named results are laid where the frame panics. -/
theorem hmf {P : Program} : ∀ (fn : Fn) (first cap : Array Value) (w : World), (Instr.makeFunc fn first cap).run P w = .ok (.func fn first cap) w := fun _ _ _ _ => rfl
end Go.Proofs.YtoekgcafhcamjaaGreatDoor
