/- The program's exported readers of integers: FormatInt's converse, by a deferred recover. -/
import Derived.Test.YtoekgcafhcamjaaGreatDoorRi
import Derived.Test.YtoekgcafhcamjaaGreatDoorRd
import Derived.Defers
import Derived.Recover
namespace Go.Proofs.YtoekgcafhcamjaaGreatDoor
open Go.RowKit Go.Lib


theorem pi_catch (p q : Addr) (x : Int) (b : Bool) (u : TypeId) (pv : Value) (w : World) (hc : w.cell? p = some (.int .i64 x)) (hz : w.frozen? p = false) (hd : w.cell? q = some (.bool b)) (hy : w.frozen? q = false) (hne : p.block ≠ q.block) :
    CallsD Tryz.prog 134 #[.pointer (some p), .pointer (some q)] (.panicking [{ v := .iface u pv, recovered := false }]) w fun e u' w' =>
      e = .returned (.tuple #[]) ∧ u' = .panicking [{ v := .iface u pv, recovered := true }] ∧ w' = (w.setCell p (.int .i64 0)).setCell q (.bool false) := by
  have hd' : (w.setCell p (.int .i64 0)).cell? q = some (.bool b) := by rw [World.cell?_setCell_other _ _ _ _ (fun e => hne (by rw [e]))]; exact hd
  refine callsD_of_wpS Tryz.func134 rfl fun c₀ cs hu => ?_
  apply wpS_seq
  apply wpS_region
  simp [wpOpsS, go_sem, recoverD, hu, Tryz.ntmps134, Exit.thenS]
  refine wpS_cond (t := true) (by simp [Act.eval, Array.replicate]) ?_
  simp only [if_true]
  apply wpS_region
  simp [wpOpsS, go_sem, hc, hz, hd', hy, bodyPostS, results, Tryz.results134]

theorem pi_idle (p q : Addr) (w : World) :
    CallsD Tryz.prog 134 #[.pointer (some p), .pointer (some q)] .returning w fun e u' w' => e = .returned (.tuple #[]) ∧ u' = .returning ∧ w' = w := by
  refine callsD_of_wpS Tryz.func134 rfl fun c₀ cs hu => ?_
  apply wpS_seq
  apply wpS_region
  simp [wpOpsS, go_sem, recoverD, hu, Tryz.ntmps134, Exit.thenS]
  refine wpS_cond (t := false) (by simp [Act.eval, Array.replicate]) ?_
  simp only [Bool.false_eq_true, if_false]
  refine wpS_of_wp (wp_skip ?_)
  cases c₀
  simp_all [bodyPostS, results, Tryz.results134]

set_option maxRecDepth 100000 in
set_option maxHeartbeats 400000 in
theorem pi_fell (s : ByteArray) (w : World)
    (hri : ∀ W, Vars W → Calls Tryz.prog 135 #[.string s, .int .i64 (-999999999999), .int .i64 999999999999] W (Fell W)) (hv : Vars w) :
    Calls Tryz.prog 102 #[.string s] w fun e w' => e = .returned (.tuple #[.int .i64 0, .bool false]) ∧ Below w.heap.size w w' := by
  have hmf' := @hmf Tryz.prog
  have hvW := hv.below (((Below.refl w.heap.size w).alloc (Nat.le_refl _) (.cells #[.int .i64 0] 3)).alloc (by simp) (.cells #[.bool false] 4))
  have HR := Lib.hid hri
  have HV := Lib.hid hvW
  clear hri hvW hv
  go_enter_defers Tryz.func102, Tryz.ntmps102
  go_wp2_with fail
  refine (HR.out _ HV.out).mono ?_
  rintro e w1 ⟨⟨pv, rfl⟩, hb⟩
  obtain ⟨hc, hf⟩ := bcell hb
  have hz := hb.size
  simp only [World.size_alloc] at hc hf hz
  have c0 : w1.cell? ⟨w.heap.size, 0, none⟩ = some (.int .i64 0) := by rw [hc _ _ (by omega)]; simp [go_sem]
  have c1 : w1.cell? ⟨w.heap.size + 1, 0, none⟩ = some (.bool false) := by rw [hc _ _ (by omega)]; simp [go_sem]
  have f0 : w1.frozen? ⟨w.heap.size, 0, none⟩ = false := by rw [hf _ _ (by omega)]; simp [go_sem]
  have f1 : w1.frozen? ⟨w.heap.size + 1, 0, none⟩ = false := by rw [hf _ _ (by omega)]; simp [go_sem]
  clear hc hf
  go_wp2_with fail
  refine leaves_cons (f := 134) (args := #[.pointer (some ⟨w.heap.size, 0, none⟩), .pointer (some ⟨w.heap.size + 1, 0, none⟩)]) (by simp) (by simp [go_sem]) ?_
  refine (pi_catch ⟨w.heap.size, 0, none⟩ ⟨w.heap.size + 1, 0, none⟩ 0 false 9 pv _ c0 f0 c1 f1 (by simp)).mono ?_
  rintro e u' w'' ⟨rfl, rfl, rfl⟩
  have hbw : Below w.heap.size w ((w1.setCell ⟨w.heap.size, 0, none⟩ (.int .i64 0)).setCell ⟨w.heap.size + 1, 0, none⟩ (.bool false)) :=
    (((((Below.refl w.heap.size w).alloc (Nat.le_refl _) _).alloc (by simp) _).trans (hb.mono (by simp; omega))).setCell (by simp) _).setCell (by simp) _
  have HB := Lib.hid hbw
  clear hbw
  simp [Leaves, settle, results, Tryz.results102, go_sem, c0, c1]
  exact HB.out

set_option maxRecDepth 100000 in
set_option maxHeartbeats 400000 in
theorem pi_ret (s : ByteArray) (v : Int) (w : World)
    (hri : ∀ W, Vars W → Calls Tryz.prog 135 #[.string s, .int .i64 (-999999999999), .int .i64 999999999999] W fun e w' => e = .returned (.int .i64 v) ∧ Below W.heap.size W w') (hv : Vars w) :
    Calls Tryz.prog 102 #[.string s] w fun e w' => e = .returned (.tuple #[.int .i64 v, .bool true]) ∧ Below w.heap.size w w' := by
  have hmf' := @hmf Tryz.prog
  have hvW := hv.below (((Below.refl w.heap.size w).alloc (Nat.le_refl _) (.cells #[.int .i64 0] 3)).alloc (by simp) (.cells #[.bool false] 4))
  have HR := Lib.hid hri
  have HV := Lib.hid hvW
  clear hri hvW hv
  go_enter_defers Tryz.func102, Tryz.ntmps102
  go_wp2_with fail
  refine (HR.out _ HV.out).mono ?_
  rintro e w1 ⟨rfl, hb⟩
  obtain ⟨hc, hf⟩ := bcell hb
  have hz := hb.size
  simp only [World.size_alloc] at hc hf hz
  have c0 : w1.cell? ⟨w.heap.size, 0, none⟩ = some (.int .i64 0) := by rw [hc _ _ (by omega)]; simp [go_sem]
  have c1 : w1.cell? ⟨w.heap.size + 1, 0, none⟩ = some (.bool false) := by rw [hc _ _ (by omega)]; simp [go_sem]
  have f0 : w1.frozen? ⟨w.heap.size, 0, none⟩ = false := by rw [hf _ _ (by omega)]; simp [go_sem]
  have f1 : w1.frozen? ⟨w.heap.size + 1, 0, none⟩ = false := by rw [hf _ _ (by omega)]; simp [go_sem]
  clear hc hf
  go_wp2_with fail
  refine leaves_cons (f := 134) (args := #[.pointer (some ⟨w.heap.size, 0, none⟩), .pointer (some ⟨w.heap.size + 1, 0, none⟩)]) (by simp) (by simp [go_sem]) ?_
  refine (pi_idle ⟨w.heap.size, 0, none⟩ ⟨w.heap.size + 1, 0, none⟩ _).mono ?_
  rintro e u' w'' ⟨rfl, rfl, rfl⟩
  have hbw : Below w.heap.size w ((w1.setCell ⟨w.heap.size, 0, none⟩ (.int .i64 v)).setCell ⟨w.heap.size + 1, 0, none⟩ (.bool true)) :=
    (((((Below.refl w.heap.size w).alloc (Nat.le_refl _) _).alloc (by simp) _).trans (hb.mono (by simp; omega))).setCell (by simp) _).setCell (by simp) _
  have HB := Lib.hid hbw
  clear hbw
  simp [Leaves, settle, results, Tryz.results102, go_sem, c0, c1]
  exact HB.out

/-- What is read by both: an integer with a property that one at most has. -/
def PnEnd (l : List UInt8) (W : World) (e : Ending) (w' : World) : Prop :=
  ((∃ n, (Rd 6 l n ∧ 0 ≤ n) ∧ e = .returned (.tuple #[.int .i64 n, .bool true])) ∨ ((∀ n, ¬ (Rd 6 l n ∧ 0 ≤ n)) ∧ e = .returned (.tuple #[.int .i64 0, .bool false]))) ∧ Below W.heap.size W w'

theorem rd_atoi {most : Nat} (hm : most ≤ 12) {l : List UInt8} {n : Int} (h : Rd most l n) : atoiAll l = .ok n := by
  rw [h.1]
  have : 10 ^ most ≤ 10 ^ 12 := Nat.pow_le_pow_right (by omega) hm
  have h2 := h.2
  exact atoiAll_itoa n (by omega)

/-- impl.ParseInt, at every text. -/
theorem pi_any (s : ByteArray) (hs : s.size ≤ 1048576) (w : World) (hv : Vars w) :
    Calls Tryz.prog 102 #[.string s] w (RdEnd 12 s.data.toList w) := by
  by_cases h : ∃ v, atoiAll s.data.toList = .ok v
  · obtain ⟨v, h⟩ := h
    by_cases he : s.data.toList = itoa v
    · by_cases h1 : -999999999999 ≤ v
      · by_cases h2 : v ≤ 999999999999
        · exact (pi_ret s v w (fun W hW => ri_ret s hs _ _ v h he h1 h2 W hW) hv).mono fun e w' ⟨e1, e2⟩ => ⟨.inl ⟨v, ⟨he, by omega⟩, e1⟩, e2⟩
        · exact (pi_fell s w (fun W hW => ri_high s hs _ _ v h he h1 (by omega) W hW) hv).mono fun e w' ⟨e1, e2⟩ => ⟨.inr ⟨fun n hn => by have := rd_unique hn he; have := hn.2; omega, e1⟩, e2⟩
      · exact (pi_fell s w (fun W hW => ri_low s hs _ _ v h he (by omega) W hW) hv).mono fun e w' ⟨e1, e2⟩ => ⟨.inr ⟨fun n hn => by have := rd_unique hn he; have := hn.2; omega, e1⟩, e2⟩
    · exact (pi_fell s w (fun W hW => ri_ne s hs _ _ v h he W hW) hv).mono fun e w' ⟨e1, e2⟩ => ⟨.inr ⟨fun n hn => by
        have h3 := rd_atoi (by omega) hn
        rw [h] at h3
        injection h3 with h3
        exact he (by rw [h3]; exact hn.1), e1⟩, e2⟩
  · exact (pi_fell s w (fun W hW => ri_bad s hs _ _ (fun v hv' => h ⟨v, hv'⟩) W hW) hv).mono fun e w' ⟨e1, e2⟩ => ⟨.inr ⟨fun n hn => h ⟨n, rd_atoi (by omega) hn⟩, e1⟩, e2⟩

set_option maxRecDepth 100000 in
set_option maxHeartbeats 400000 in
/-- spec.ParseInt, at every text. -/
theorem spi_any (s : ByteArray) (hs : s.size ≤ maxLen) (w : World) :
    Calls Tryz.prog 97 #[.string s] w (RdEnd 12 s.data.toList w) := by
  have hrd := rd_any s 12 (by omega) (by omega) hs
  go_enter Tryz.func97, Tryz.ntmps97
  go_wp2_with fail
  refine (hrd w).mono ?_
  rintro e w1 ⟨⟨n, hn, rfl⟩ | ⟨hno, rfl⟩, hb⟩
  · have HN := Lib.hid hn
    clear hn hrd
    go_wp2_with fail
    go_ret2
    exact rd_end_yes HN.out hb
  · have HN := Lib.hid hno
    clear hno hrd
    go_wp2_with fail
    go_ret2
    exact rd_end_no HN.out hb

end Go.Proofs.YtoekgcafhcamjaaGreatDoor
