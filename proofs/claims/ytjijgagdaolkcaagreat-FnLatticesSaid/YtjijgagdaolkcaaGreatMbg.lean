/- The program's leaderOf. -/
import Derived.Test.YtjijgagdaolkcaaGreatMax
import Derived.Test.YtjijgagdaolkcaaGreatLtK
import Derived.Test.YtjijgagdaolkcaaGreatMav
import Derived.Test.YtjijgagdaolkcaaGreatMay
import Derived.Test.YtjijgagdaolkcaaGreatVecJ
import Derived.Test.YtjijgagdaolkcaaGreatMah
import Derived.Test.YtjijgagdaolkcaaGreatMai
namespace Go.Proofs.YtjijgagdaolkcaaGreat
open Go Go.RowKit Go.Lib

def gridV (h : H6) : Value := .agg #[.int .i64 h.d0, .int .i64 h.a, .int .i64 h.b, .int .i64 0, .int .i64 h.d1, .int .i64 h.c, .int .i64 0, .int .i64 0, .int .i64 h.d2]
/-- No number of the form is greater than 500. -/
structure H6.Sm (h : H6) : Prop where
  d0 : h.d0 ≤ 500
  d1 : h.d1 ≤ 500
  d2 : h.d2 ≤ 500
/-- The bounds of a leader. -/
theorem lead_bd {h : H6} (s : h.Sm) {t : T3} (i : InT h t) : (0 ≤ t.1 ∧ t.1 ≤ 500) ∧ (0 ≤ t.2.1 ∧ t.2.1 ≤ 500) ∧ (0 ≤ t.2.2 ∧ t.2.2 ≤ 500) := by
  have := s.d0; have := s.d1; have := s.d2
  have := i.x0; have := i.x1; have := i.y0; have := i.y1; have := i.z0; have := i.z1
  omega
theorem q_bd {x d X : Int} (hd : 0 < d) (h1 : -X ≤ x) (h2 : x ≤ X) {p : Int} (p0 : 0 ≤ p) (p1 : p ≤ 500) (hX : 0 ≤ X) : -(X * 500) ≤ -(x / d) * p ∧ -(x / d) * p ≤ X * 500 := by
  have h := floor_bd hd h1 h2
  have a1 : -(x / d) * p ≤ X * p := Int.mul_le_mul_of_nonneg_right (by omega) p0
  have a2 : -X * p ≤ -(x / d) * p := Int.mul_le_mul_of_nonneg_right (by omega) p0
  have a3 : X * p ≤ X * 500 := Int.mul_le_mul_of_nonneg_left p1 hX
  rw [Int.neg_mul] at a2
  omega
set_option maxRecDepth 100000 in
set_option maxHeartbeats 1600000 in
theorem i_leader (h : H6) (k : h.Ok) (s : h.Sm) (t : T3) (hx : -100000 ≤ t.1 ∧ t.1 ≤ 100000) (hy : -100000 ≤ t.2.1 ∧ t.2.1 ≤ 100000) (hz : -100000 ≤ t.2.2 ∧ t.2.2 ≤ 100000) (w : World) :
    Calls Tryz.prog 34 #[gridV h, encV t] w fun e w' => e = .returned (encV (leadT h t)) ∧ Below w.heap.size w w' := by
  obtain ⟨d0, a, b, d1, c, d2⟩ := h
  obtain ⟨x, y, z⟩ := t
  obtain ⟨k0, k1, k2, a0, a1, b0, b1, c0, c1⟩ := k
  obtain ⟨s0, s1, s2⟩ := s
  simp only at k0 k1 k2 a0 a1 b0 b1 c0 c1 s0 s1 s2 hx hy hz
  have q0 := q_bd (x := x) k0 hx.1 hx.2 (p := d0) (by omega) s0 (by omega)
  have q1 := q_bd (x := x) k0 hx.1 hx.2 (p := a) (by omega) (by omega) (by omega)
  have q2 := q_bd (x := x) k0 hx.1 hx.2 (p := b) (by omega) (by omega) (by omega)
  have C0 := Lib.hid (fun W => i_redat0 x y z d0 a b k0 (by omega) (by omega) (by omega) W)
  obtain ⟨x1, e0⟩ : ∃ r, x + -(x / d0) * d0 = r := ⟨_, rfl⟩
  obtain ⟨y1, e1⟩ : ∃ r, y + -(x / d0) * a = r := ⟨_, rfl⟩
  obtain ⟨z1, e2⟩ : ∃ r, z + -(x / d0) * b = r := ⟨_, rfl⟩
  have w0 : -60000000 ≤ x1 ∧ x1 ≤ 60000000 := by omega
  have w1 : -60000000 ≤ y1 ∧ y1 ≤ 60000000 := by omega
  have w2 : -60000000 ≤ z1 ∧ z1 ≤ 60000000 := by omega
  rw [e0, e1, e2] at C0
  have q3 := q_bd (x := y1) k1 w1.1 w1.2 (p := d1) (by omega) s1 (by omega)
  have q4 := q_bd (x := y1) k1 w1.1 w1.2 (p := c) (by omega) (by omega) (by omega)
  have C1 := Lib.hid (fun W => i_redat1 x1 y1 z1 0 d1 c k1 (by omega) (by omega) (by omega) W)
  obtain ⟨x2, e3⟩ : ∃ r, x1 + -(y1 / d1) * 0 = r := ⟨_, rfl⟩
  obtain ⟨y2, e4⟩ : ∃ r, y1 + -(y1 / d1) * d1 = r := ⟨_, rfl⟩
  obtain ⟨z2, e5⟩ : ∃ r, z1 + -(y1 / d1) * c = r := ⟨_, rfl⟩
  have w3 : -60000000000 ≤ x2 ∧ x2 ≤ 60000000000 := by omega
  have w4 : -60000000000 ≤ y2 ∧ y2 ≤ 60000000000 := by omega
  have w5 : -60000000000 ≤ z2 ∧ z2 ≤ 60000000000 := by omega
  rw [e3, e4, e5] at C1
  have q5 := q_bd (x := z2) k2 w5.1 w5.2 (p := d2) (by omega) s2 (by omega)
  have C2 := Lib.hid (fun W => i_redat2 x2 y2 z2 0 0 d2 k2 (by omega) (by omega) (by omega) W)
  obtain ⟨x3, e6⟩ : ∃ r, x2 + -(z2 / d2) * 0 = r := ⟨_, rfl⟩
  obtain ⟨y3, e7⟩ : ∃ r, y2 + -(z2 / d2) * 0 = r := ⟨_, rfl⟩
  obtain ⟨z3, e8⟩ : ∃ r, z2 + -(z2 / d2) * d2 = r := ⟨_, rfl⟩
  rw [e6, e7, e8] at C2
  have HE := Lib.hid (show leadT ⟨d0, a, b, d1, c, d2⟩ (x, y, z) = (x3, y3, z3) by
    rw [← e6, ← e7, ← e8, ← e5, ← e4, ← e3, ← e2, ← e1, ← e0]
    simp only [leadT, Int.mul_zero, Int.add_zero, Int.neg_mul, Int.sub_eq_add_neg])
  clear e0 e1 e2 e3 e4 e5 e6 e7 e8 q0 q1 q2 q3 q4 q5 w0 w1 w2 w3 w4 w5 k0 k1 k2 a0 a1 b0 b1 c0 c1 s0 s1 s2 hx hy hz
  have ix0 : ∀ w, (Instr.index 45 (.agg #[.int .i64 d0, .int .i64 a, .int .i64 b, .int .i64 0, .int .i64 d1, .int .i64 c, .int .i64 0, .int .i64 0, .int .i64 d2]) (.int .i64 0)).run Tryz.prog w = .ok (.agg #[.int .i64 d0, .int .i64 a, .int .i64 b]) w := fun _ => by kernel_rfl
  have ix1 : ∀ w, (Instr.index 45 (.agg #[.int .i64 d0, .int .i64 a, .int .i64 b, .int .i64 0, .int .i64 d1, .int .i64 c, .int .i64 0, .int .i64 0, .int .i64 d2]) (.int .i64 1)).run Tryz.prog w = .ok (.agg #[.int .i64 0, .int .i64 d1, .int .i64 c]) w := fun _ => by kernel_rfl
  have ix2 : ∀ w, (Instr.index 45 (.agg #[.int .i64 d0, .int .i64 a, .int .i64 b, .int .i64 0, .int .i64 d1, .int .i64 c, .int .i64 0, .int .i64 0, .int .i64 d2]) (.int .i64 2)).run Tryz.prog w = .ok (.agg #[.int .i64 0, .int .i64 0, .int .i64 d2]) w := fun _ => by kernel_rfl
  unfold gridV encV
  simp only
  rw [HE.out]
  simp only
  go_enter Tryz.func34, Tryz.ntmps34
  go_wp2_with fail
  refine wp_loop_rounds 4 ?_
  rw [rounds_succ]
  refine wgen ?_
  intro W hW
  have H3 := Bk.three w #[.int .i64 d0, .int .i64 a, .int .i64 b, .int .i64 0, .int .i64 d1, .int .i64 c, .int .i64 0, .int .i64 0, .int .i64 d2] #[.int .i64 x, .int .i64 y, .int .i64 z] #[.int .i64 0, .int .i64 0, .int .i64 0] 45 43 43
  have HB := below3 w (.cells #[.int .i64 d0, .int .i64 a, .int .i64 b, .int .i64 0, .int .i64 d1, .int .i64 c, .int .i64 0, .int .i64 0, .int .i64 d2] 45) (.cells #[.int .i64 x, .int .i64 y, .int .i64 z] 43) (.cells #[.int .i64 0, .int .i64 0, .int .i64 0] 43)
  rw [← hW] at H3 HB
  have KX := Lib.hid H3.2.1
  have KR := Lib.hid H3.2.2
  have KB := Lib.hid HB
  clear hW H3 HB
  have LX := Lib.hid (KX.out.alloc (.cells #[.int .i64 d0, .int .i64 a, .int .i64 b] 43))
  have LR := Lib.hid (KR.out.alloc (.cells #[.int .i64 d0, .int .i64 a, .int .i64 b] 43))
  have LB := Lib.hid (KB.out.alloc KB.out.size (.cells #[.int .i64 d0, .int .i64 a, .int .i64 b] 43))
  obtain ⟨l0, l1, l2⟩ := bk3t LX.out
  obtain ⟨j0, j1, j2⟩ := bk3t (Bk.new W #[.int .i64 d0, .int .i64 a, .int .i64 b] 43)
  clear KX KR KB
  go_wp2_with fail
  refine (C0.out _).mono ?_
  rintro e V0 ⟨rfl, hb⟩
  have MX := Lib.hid (LX.out.below hb)
  have MR := Lib.hid (LR.out.below hb)
  have MB := Lib.hid (LB.out.trans (hb.mono LB.out.size))
  clear hb l0 l1 l2 j0 j1 j2 LX LR LB
  obtain ⟨l0, l1, l2⟩ := bk3t MX.out
  have f0 := MX.out.free 0
  have f1 := MX.out.free 1
  have f2 := MX.out.free 2
  go_wp2_with fail
  have QX := Lib.hid (((MX.out.set 0 (.int .i64 x1) (by simp)).set 1 (.int .i64 y1) (by simp)).set 2 (.int .i64 z1) (by simp))
  have QR := Lib.hid (((MR.out.other (p := ⟨w.heap.size + 1, 0, none⟩) (by simp) (.int .i64 x1)).other (p := ⟨w.heap.size + 1, 1, none⟩) (by simp) (.int .i64 y1)).other (p := ⟨w.heap.size + 1, 2, none⟩) (by simp) (.int .i64 z1))
  have QB := Lib.hid (((MB.out.setCell (p := ⟨w.heap.size + 1, 0, none⟩) (by simp) (.int .i64 x1)).setCell (p := ⟨w.heap.size + 1, 1, none⟩) (by simp) (.int .i64 y1)).setCell (p := ⟨w.heap.size + 1, 2, none⟩) (by simp) (.int .i64 z1))
  clear l0 l1 l2 f0 f1 f2 MX MR MB
  rw [rounds_succ]
  refine wgen ?_
  intro W1 hW
  have KX := Lib.hid (show Bk W1 (w.heap.size + 1) #[.int .i64 x1, .int .i64 y1, .int .i64 z1] 43 by rw [hW]; exact QX.out)
  have KR := Lib.hid (show Bk W1 (w.heap.size + 1 + 1) #[.int .i64 0, .int .i64 0, .int .i64 0] 43 by rw [hW]; exact QR.out)
  have KB := Lib.hid (show Below w.heap.size w W1 by rw [hW]; exact QB.out)
  clear hW QX QR QB
  have LX := Lib.hid (KX.out.alloc (.cells #[.int .i64 0, .int .i64 d1, .int .i64 c] 43))
  have LR := Lib.hid (KR.out.alloc (.cells #[.int .i64 0, .int .i64 d1, .int .i64 c] 43))
  have LB := Lib.hid (KB.out.alloc KB.out.size (.cells #[.int .i64 0, .int .i64 d1, .int .i64 c] 43))
  obtain ⟨l0, l1, l2⟩ := bk3t LX.out
  obtain ⟨j0, j1, j2⟩ := bk3t (Bk.new W1 #[.int .i64 0, .int .i64 d1, .int .i64 c] 43)
  clear KX KR KB
  go_wp2_with fail
  refine (C1.out _).mono ?_
  rintro e V1 ⟨rfl, hb⟩
  have MX := Lib.hid (LX.out.below hb)
  have MR := Lib.hid (LR.out.below hb)
  have MB := Lib.hid (LB.out.trans (hb.mono LB.out.size))
  clear hb l0 l1 l2 j0 j1 j2 LX LR LB
  obtain ⟨l0, l1, l2⟩ := bk3t MX.out
  have f0 := MX.out.free 0
  have f1 := MX.out.free 1
  have f2 := MX.out.free 2
  go_wp2_with fail
  have QX := Lib.hid (((MX.out.set 0 (.int .i64 x2) (by simp)).set 1 (.int .i64 y2) (by simp)).set 2 (.int .i64 z2) (by simp))
  have QR := Lib.hid (((MR.out.other (p := ⟨w.heap.size + 1, 0, none⟩) (by simp) (.int .i64 x2)).other (p := ⟨w.heap.size + 1, 1, none⟩) (by simp) (.int .i64 y2)).other (p := ⟨w.heap.size + 1, 2, none⟩) (by simp) (.int .i64 z2))
  have QB := Lib.hid (((MB.out.setCell (p := ⟨w.heap.size + 1, 0, none⟩) (by simp) (.int .i64 x2)).setCell (p := ⟨w.heap.size + 1, 1, none⟩) (by simp) (.int .i64 y2)).setCell (p := ⟨w.heap.size + 1, 2, none⟩) (by simp) (.int .i64 z2))
  clear l0 l1 l2 f0 f1 f2 MX MR MB
  rw [rounds_succ]
  refine wgen ?_
  intro W2 hW
  have KX := Lib.hid (show Bk W2 (w.heap.size + 1) #[.int .i64 x2, .int .i64 y2, .int .i64 z2] 43 by rw [hW]; exact QX.out)
  have KR := Lib.hid (show Bk W2 (w.heap.size + 1 + 1) #[.int .i64 0, .int .i64 0, .int .i64 0] 43 by rw [hW]; exact QR.out)
  have KB := Lib.hid (show Below w.heap.size w W2 by rw [hW]; exact QB.out)
  clear hW QX QR QB
  have LX := Lib.hid (KX.out.alloc (.cells #[.int .i64 0, .int .i64 0, .int .i64 d2] 43))
  have LR := Lib.hid (KR.out.alloc (.cells #[.int .i64 0, .int .i64 0, .int .i64 d2] 43))
  have LB := Lib.hid (KB.out.alloc KB.out.size (.cells #[.int .i64 0, .int .i64 0, .int .i64 d2] 43))
  obtain ⟨l0, l1, l2⟩ := bk3t LX.out
  obtain ⟨j0, j1, j2⟩ := bk3t (Bk.new W2 #[.int .i64 0, .int .i64 0, .int .i64 d2] 43)
  clear KX KR KB
  go_wp2_with fail
  refine (C2.out _).mono ?_
  rintro e V2 ⟨rfl, hb⟩
  have MX := Lib.hid (LX.out.below hb)
  have MR := Lib.hid (LR.out.below hb)
  have MB := Lib.hid (LB.out.trans (hb.mono LB.out.size))
  clear hb l0 l1 l2 j0 j1 j2 LX LR LB
  obtain ⟨l0, l1, l2⟩ := bk3t MX.out
  have f0 := MX.out.free 0
  have f1 := MX.out.free 1
  have f2 := MX.out.free 2
  go_wp2_with fail
  have QX := Lib.hid (((MX.out.set 0 (.int .i64 x3) (by simp)).set 1 (.int .i64 y3) (by simp)).set 2 (.int .i64 z3) (by simp))
  have QR := Lib.hid (((MR.out.other (p := ⟨w.heap.size + 1, 0, none⟩) (by simp) (.int .i64 x3)).other (p := ⟨w.heap.size + 1, 1, none⟩) (by simp) (.int .i64 y3)).other (p := ⟨w.heap.size + 1, 2, none⟩) (by simp) (.int .i64 z3))
  have QB := Lib.hid (((MB.out.setCell (p := ⟨w.heap.size + 1, 0, none⟩) (by simp) (.int .i64 x3)).setCell (p := ⟨w.heap.size + 1, 1, none⟩) (by simp) (.int .i64 y3)).setCell (p := ⟨w.heap.size + 1, 2, none⟩) (by simp) (.int .i64 z3))
  clear l0 l1 l2 f0 f1 f2 MX MR MB
  rw [rounds_succ]
  refine wgen ?_
  intro W3 hW
  have KX := Lib.hid (show Bk W3 (w.heap.size + 1) #[.int .i64 x3, .int .i64 y3, .int .i64 z3] 43 by rw [hW]; exact QX.out)
  have KR := Lib.hid (show Bk W3 (w.heap.size + 1 + 1) #[.int .i64 0, .int .i64 0, .int .i64 0] 43 by rw [hW]; exact QR.out)
  have KB := Lib.hid (show Below w.heap.size w W3 by rw [hW]; exact QB.out)
  clear hW QX QR QB
  obtain ⟨l0, l1, l2⟩ := bk3t KX.out
  obtain ⟨j0, j1, j2⟩ := bk3t KR.out
  have f0 := KR.out.free 0
  have f1 := KR.out.free 1
  have f2 := KR.out.free 2
  go_wp2
  refine bodyPost_ret (v := .agg #[.int .i64 x3, .int .i64 y3, .int .i64 z3]) ?_ rfl ⟨rfl, (((KB.out.setCell (p := ⟨w.heap.size + 1 + 1, 0, none⟩) (by simp; omega) _).setCell (p := ⟨w.heap.size + 1 + 1, 1, none⟩) (by simp; omega) _).setCell (p := ⟨w.heap.size + 1 + 1, 2, none⟩) (by simp; omega) _)⟩
  simp [results, Tryz.results34, go_sem, j0, j1, j2]
end Go.Proofs.YtjijgagdaolkcaaGreat
/- The program's keepLeaders: all classes that are reached are kept. -/
namespace Go.Proofs.YtjijgagdaolkcaaGreat
open Go Go.RowKit Go.Lib

/-- How many leaders are not kept yet. -/
def Miss (h : H6) (S : List T3) : Nat := (boxT h).countP fun t => !(S.contains t)
theorem miss_le {h : H6} {S S' : List T3} (hs : ∀ t ∈ S, t ∈ S') : Miss h S' ≤ Miss h S := by
  refine List.countP_mono_left fun t _ ht => ?_
  simp only [Bool.not_eq_true', List.contains_eq_mem, decide_eq_false_iff_not] at ht ⊢
  exact fun e => ht (hs t e)
theorem countP_lt {α : Type} {p q : α → Bool} {x : α} : ∀ {l : List α}, x ∈ l → (∀ y, q y = true → p y = true) → p x = true → q x = false → l.countP q < l.countP p
  | [], h, _, _, _ => by simp at h
  | y :: l, h, hq, h1, h2 => by
    have hle : l.countP q ≤ l.countP p := List.countP_mono_left fun z _ hz => hq z hz
    rcases List.mem_cons.1 h with rfl | h
    · rw [List.countP_cons_of_pos h1, List.countP_cons_of_neg (by simp [h2])]; omega
    · have ih := countP_lt h hq h1 h2
      rw [List.countP_cons, List.countP_cons]
      by_cases hy : q y = true
      · rw [if_pos hy, if_pos (hq y hy)]; omega
      · rw [if_neg hy]; omega
theorem miss_lt {h : H6} {S : List T3} {t : T3} (hi : InT h t) (ht : t ∉ S) : Miss h (t :: S) < Miss h S := by
  refine countP_lt (mem_boxT.2 hi) (fun y hy => ?_) (by simpa using ht) (by simp)
  simp only [Bool.not_eq_true', List.contains_eq_mem, decide_eq_false_iff_not, List.mem_cons] at hy ⊢
  exact fun e => hy (.inr e)
theorem miss_nil (h : H6) : Miss h [] = (boxT h).length := by
  unfold Miss
  rw [List.countP_eq_length]
  intro t _
  rfl

theorem grown_of_below {w w' : World} (hb : Below w.heap.size w w') (r : Option Nat) : w.grownBy w' r := ⟨hb.os, hb.tape, hb.output, hb.size, fun k hk _ => hb.block k hk⟩
theorem grown_alloc (w : World) (o : Obj) (r : Option Nat) : w.grownBy (w.alloc o) r := grown_of_below (below1 w o) r
theorem grown_set (w : World) (p : Addr) (v : Value) : w.grownBy (w.setCell p v) (some p.block) := ⟨rfl, rfl, rfl, by simp [World.setCell], fun k _ hk => Below.heap_setCell _ _ _ k (fun e => hk (by rw [e]))⟩
theorem grown_then {a b c : World} {r : Option Nat} (h : a.grownBy b r) (k : b.grownBy c r) : a.grownBy c r := h.andThen k fun _ e => .inr e
theorem grown_then_set {a b : World} {r : Option Nat} (h : a.grownBy b r) {p : Addr} (hp : a.heap.size ≤ p.block) (v : Value) : a.grownBy (b.setCell p v) r := h.andThen (grown_set b p v) fun _ e => .inl (by cases e; exact hp)
theorem Bk.grown {w w' : World} {b j : Nat} {cs : Array Value} {T : TypeId} (h : Bk w j cs T) (hg : w.grownBy w' (some b)) (hne : j ≠ b) : Bk w' j cs T := (hg.block j h.lt (fun e => hne (by cases e; rfl))).trans h

/-- What keepLeaders does to the set. -/
structure Grows (h : H6) (S : List T3) (x : T3) (S' : List T3) : Prop where
  sub : ∀ t ∈ S, t ∈ S'
  box : ∀ t ∈ S', InT h t
  has : leadT h x ∈ S'
  shut : ∀ t ∈ S', t ∉ S → ∀ j, j < 3 → leadT h (upT t j) ∈ S'
def KeepP (h : H6) (b N : Nat) (S : List T3) (x : T3) (w : World) (e : Ending) (w' : World) : Prop :=
  ∃ (v : Value) (S' : List T3) (n' : Nat), e = .returned v ∧ SetM w' b n' S' ∧ n' + Miss h S' ≤ N ∧ Grows h S x S' ∧ w.grownBy w' (some b)
theorem grows_three {h : H6} {S S1 S2 S3 : List T3} {l x : T3} (e : leadT h x = l) (_hl : InT h l) (g1 : Grows h (l :: S) (upT l 0) S1) (g2 : Grows h S1 (upT l 1) S2) (g3 : Grows h S2 (upT l 2) S3) : Grows h S x S3 := by
  refine ⟨fun t ht => g3.sub t (g2.sub t (g1.sub t (by simp [ht]))), g3.box, by rw [e]; exact g3.sub l (g2.sub l (g1.sub l (by simp))), fun t ht hn j hj => ?_⟩
  by_cases h2 : t ∈ S2
  · by_cases h1 : t ∈ S1
    · by_cases h0 : t = l
      · subst h0
        match j, hj with
        | 0, _ => exact g3.sub _ (g2.sub _ g1.has)
        | 1, _ => exact g3.sub _ g2.has
        | 2, _ => exact g3.has
      · exact g3.sub _ (g2.sub _ (g1.shut t h1 (by simp [h0, hn]) j hj))
    · exact g3.sub _ (g2.shut t h2 h1 j hj)
  · exact g3.shut t ht h2 j hj
theorem w3_of {t : T3} (h1 : -1000000 ≤ t.1 ∧ t.1 ≤ 1000000) (h2 : -1000000 ≤ t.2.1 ∧ t.2.1 ≤ 1000000) (h3 : -1000000 ≤ t.2.2 ∧ t.2.2 ≤ 1000000) : W3 t := by
  refine ⟨WalkArith.wf_i64 ?_, WalkArith.wf_i64 ?_, WalkArith.wf_i64 ?_⟩ <;> omega
set_option maxRecDepth 100000 in
set_option maxHeartbeats 1600000 in
theorem i_keep_in (h : H6) (k : h.Ok) (s : h.Sm) (b N : Nat) (S : List T3) (t : T3) (n : Nat) (w : World) (hn : n + Miss h S ≤ N) (hS : ∀ t ∈ S, InT h t) (ho : SetM w b n S) (hmem : leadT h t ∈ S)
    (hx : -100000 ≤ t.1 ∧ t.1 ≤ 100000) (hy : -100000 ≤ t.2.1 ∧ t.2.1 ≤ 100000) (hz : -100000 ≤ t.2.2 ∧ t.2.2 ≤ 100000) :
    Calls Tryz.prog 56 #[.map (some b), gridV h, encV t] w (KeepP h b N S t w) := by
  have zb : ∀ w, (zeroValue 4).run Tryz.prog w = .ok (.bool false) w := fun _ => by kernel_rfl
  have hin := lead_in k t
  have CL := Lib.hid (fun W => i_leader h k s t hx hy hz W)
  have hb := lead_bd s hin
  have HW := Lib.hid (w3_of (t := leadT h t) (by omega) (by omega) (by omega))
  have HR := Lib.hid (show n + Miss h S ≤ N ∧ Grows h S t S from ⟨hn, fun t ht => ht, hS, hmem, fun t ht hn => absurd ht hn⟩)
  have hdec : decide (leadT h t ∈ S) = true := by simpa using hmem
  generalize leadT h t = l at CL HW hdec
  obtain ⟨l0, l1, l2⟩ := l
  have HD := Lib.hid hdec
  have HO := Lib.hid ho
  clear hx hy hz hin hb hmem hdec hn hS ho
  obtain ⟨d0, da, db, d1, dc, d2⟩ := h
  obtain ⟨x, y, z⟩ := t
  unfold gridV encV at CL
  unfold gridV encV
  simp only at CL ⊢
  go_enter Tryz.func56, Tryz.ntmps56
  go_wp2_with fail
  refine (CL.out _).mono ?_
  rintro e w1 ⟨rfl, hb⟩
  have B1 := Lib.hid (show Below w.heap.size w (w1.alloc (.cells #[.int .i64 l0, .int .i64 l1, .int .i64 l2] 43)) from ((below2 w _ _).trans (hb.mono (below2 w _ _).size)).alloc (((below2 w _ _).trans (hb.mono (below2 w _ _).size)).size) _)
  clear hb
  have O1 := Lib.hid (HO.out.below B1.out)
  have K1 := Lib.hid (Bk.new w1 #[.int .i64 l0, .int .i64 l1, .int .i64 l2] 43)
  obtain ⟨c0, c1, c2⟩ := bk3t K1.out
  go_wp2_with (first | (at_lookup; refine list_look_set _ rfl _ _ 73 rfl Tryz.underlying73 (zb _) b n S rfl O1.out (l0, l1, l2) rfl HW.out ?_; rw [HD.out]) | fail)
  go_end0
  exact ⟨_, S, n, rfl, O1.out, HR.out.1, HR.out.2, grown_of_below B1.out _⟩
set_option maxRecDepth 100000 in
set_option maxHeartbeats 4000000 in
theorem i_keep (h : H6) (k : h.Ok) (s : h.Sm) (b N : Nat) (hN : N < maxLen) : ∀ (m : Nat) (S : List T3) (t : T3) (n : Nat) (w : World), Miss h S ≤ m → n + Miss h S ≤ N → (∀ t ∈ S, InT h t) → SetM w b n S →
    (-100000 ≤ t.1 ∧ t.1 ≤ 100000) → (-100000 ≤ t.2.1 ∧ t.2.1 ≤ 100000) → (-100000 ≤ t.2.2 ∧ t.2.2 ≤ 100000) →
    Calls Tryz.prog 56 #[.map (some b), gridV h, encV t] w (KeepP h b N S t w) := by
  have zb : ∀ w, (zeroValue 4).run Tryz.prog w = .ok (.bool false) w := fun _ => by kernel_rfl
  intro m
  induction m with
  | zero =>
    intro S t n w hm hn hS ho hx hy hz
    refine i_keep_in h k s b N S t n w hn hS ho ?_ hx hy hz
    by_cases hh : leadT h t ∈ S
    · exact hh
    · have := miss_lt (lead_in k t) hh; omega
  | succ m ih =>
    intro S t n w hm hn hS ho hx hy hz
    by_cases hmem : leadT h t ∈ S
    · exact i_keep_in h k s b N S t n w hn hS ho hmem hx hy hz
    · have hin := lead_in k t
      have hlt := miss_lt hin hmem
      have CL := Lib.hid (fun W => i_leader h k s t hx hy hz W)
      have hb := lead_bd s hin
      have HW := Lib.hid (w3_of (t := leadT h t) (by omega) (by omega) (by omega))
      have hdec : decide (leadT h t ∈ S) = false := by simpa using hmem
      have IH := Lib.hid ih
      have h1 : Miss h (leadT h t :: S) ≤ m := by omega
      have h2 : (n + 1) + Miss h (leadT h t :: S) ≤ N := by omega
      have h3 : ∀ u ∈ leadT h t :: S, InT h u := fun u hu => by
        rcases List.mem_cons.1 hu with rfl | hu
        · exact hin
        · exact hS u hu
      have hnm : n < maxLen := by omega
      generalize hl : leadT h t = l at CL HW hdec hb h1 h2 h3 hin
      have HL := Lib.hid hl
      obtain ⟨l0, l1, l2⟩ := l
      have HD := Lib.hid hdec
      have HO := Lib.hid ho
      have HI := Lib.hid hin
      have HM := Lib.hid h1
      have HN := Lib.hid h2
      have HS := Lib.hid h3
      have hbl := ho.lt
      simp only at hb
      have u0 : IntKind.i64.wrap (l0 + 1) = l0 + 1 := IntWalk.i64_in _ (by omega)
      have u1 : IntKind.i64.wrap (l1 + 1) = l1 + 1 := IntWalk.i64_in _ (by omega)
      have u2 : IntKind.i64.wrap (l2 + 1) = l2 + 1 := IntWalk.i64_in _ (by omega)
      have HB := Lib.hid hb
      have I0 := Lib.hid (fun S n W a b c d => IH.out S (upT (l0, l1, l2) 0) n W a b c d (show -100000 ≤ l0 + 1 ∧ l0 + 1 ≤ 100000 by have := HB.out; omega) (show -100000 ≤ l1 ∧ l1 ≤ 100000 by have := HB.out; omega) (show -100000 ≤ l2 ∧ l2 ≤ 100000 by have := HB.out; omega))
      have I1 := Lib.hid (fun S n W a b c d => IH.out S (upT (l0, l1, l2) 1) n W a b c d (show -100000 ≤ l0 ∧ l0 ≤ 100000 by have := HB.out; omega) (show -100000 ≤ l1 + 1 ∧ l1 + 1 ≤ 100000 by have := HB.out; omega) (show -100000 ≤ l2 ∧ l2 ≤ 100000 by have := HB.out; omega))
      have I2 := Lib.hid (fun S n W a b c d => IH.out S (upT (l0, l1, l2) 2) n W a b c d (show -100000 ≤ l0 ∧ l0 ≤ 100000 by have := HB.out; omega) (show -100000 ≤ l1 ∧ l1 ≤ 100000 by have := HB.out; omega) (show -100000 ≤ l2 + 1 ∧ l2 + 1 ≤ 100000 by have := HB.out; omega))
      clear hx hy hz hin hb hmem hdec hn hS ho ih IH h1 h2 h3 hlt hm hl k s HB
      generalize hh : h = h' at *
      have HH := Lib.hid hh
      clear hh
      obtain ⟨d0, da, db, d1, dc, d2⟩ := h
      obtain ⟨x, y, z⟩ := t
      have e9 := HH.out
      have CL' := Lib.hid (show ∀ W, Calls Tryz.prog 34 #[.agg #[.int .i64 d0, .int .i64 da, .int .i64 db, .int .i64 0, .int .i64 d1, .int .i64 dc, .int .i64 0, .int .i64 0, .int .i64 d2], .agg #[.int .i64 x, .int .i64 y, .int .i64 z]] W fun e w' => e = .returned (.agg #[.int .i64 l0, .int .i64 l1, .int .i64 l2]) ∧ Below W.heap.size W w' by intro W; have := CL.out W; rw [← HH.out] at this; exact this)
      have I0' := Lib.hid (show ∀ S n W, Miss h' S ≤ m → n + Miss h' S ≤ N → (∀ t ∈ S, InT h' t) → SetM W b n S → Calls Tryz.prog 56 #[.map (some b), .agg #[.int .i64 d0, .int .i64 da, .int .i64 db, .int .i64 0, .int .i64 d1, .int .i64 dc, .int .i64 0, .int .i64 0, .int .i64 d2], .agg #[.int .i64 (l0 + 1), .int .i64 l1, .int .i64 l2]] W (KeepP h' b N S (upT (l0, l1, l2) 0) W) by intro S n W a b c d; have := I0.out S n W a b c d; rw [← HH.out] at this ⊢; exact this)
      have I1' := Lib.hid (show ∀ S n W, Miss h' S ≤ m → n + Miss h' S ≤ N → (∀ t ∈ S, InT h' t) → SetM W b n S → Calls Tryz.prog 56 #[.map (some b), .agg #[.int .i64 d0, .int .i64 da, .int .i64 db, .int .i64 0, .int .i64 d1, .int .i64 dc, .int .i64 0, .int .i64 0, .int .i64 d2], .agg #[.int .i64 l0, .int .i64 (l1 + 1), .int .i64 l2]] W (KeepP h' b N S (upT (l0, l1, l2) 1) W) by intro S n W a b c d; have := I1.out S n W a b c d; rw [← HH.out] at this ⊢; exact this)
      have I2' := Lib.hid (show ∀ S n W, Miss h' S ≤ m → n + Miss h' S ≤ N → (∀ t ∈ S, InT h' t) → SetM W b n S → Calls Tryz.prog 56 #[.map (some b), .agg #[.int .i64 d0, .int .i64 da, .int .i64 db, .int .i64 0, .int .i64 d1, .int .i64 dc, .int .i64 0, .int .i64 0, .int .i64 d2], .agg #[.int .i64 l0, .int .i64 l1, .int .i64 (l2 + 1)]] W (KeepP h' b N S (upT (l0, l1, l2) 2) W) by intro S n W a b c d; have := I2.out S n W a b c d; rw [← HH.out] at this ⊢; exact this)
      have hg9 : gridV h' = .agg #[.int .i64 d0, .int .i64 da, .int .i64 db, .int .i64 0, .int .i64 d1, .int .i64 dc, .int .i64 0, .int .i64 0, .int .i64 d2] := by rw [← HH.out]; rfl
      rw [hg9]
      clear hg9 e9 CL I0 I1 I2 HH
      unfold encV
      simp only
      go_enter Tryz.func56, Tryz.ntmps56
      go_wp2_with fail
      refine (CL'.out _).mono ?_
      rintro e w1 ⟨rfl, hb⟩
      have hb2 : Below w.heap.size w w1 := (below2 w _ _).trans (hb.mono (below2 w _ _).size)
      have B1 := Lib.hid (hb2.alloc hb2.size (.cells #[.int .i64 l0, .int .i64 l1, .int .i64 l2] 43))
      have KG := Lib.hid ((((Bk.pair w #[.int .i64 d0, .int .i64 da, .int .i64 db, .int .i64 0, .int .i64 d1, .int .i64 dc, .int .i64 0, .int .i64 0, .int .i64 d2] #[.int .i64 x, .int .i64 y, .int .i64 z] 45 43).1).below hb).alloc (.cells #[.int .i64 l0, .int .i64 l1, .int .i64 l2] 43))
      have hL : w.heap.size ≤ w1.heap.size := hb2.size
      clear hb hb2
      have O1 := Lib.hid (HO.out.below B1.out)
      have K1 := Lib.hid (Bk.new w1 #[.int .i64 l0, .int .i64 l1, .int .i64 l2] 43)
      obtain ⟨c0, c1, c2⟩ := bk3t K1.out
      go_wp2_with (first | (at_lookup; refine list_look_set _ rfl _ _ 73 rfl Tryz.underlying73 (zb _) b n S rfl O1.out (l0, l1, l2) rfl HW.out ?_; rw [HD.out]) | (at_mapUpdate; refine list_store_set _ rfl _ _ _ 73 rfl Tryz.underlying73 b n S rfl O1.out hnm (l0, l1, l2) rfl rfl HW.out ?_; intro w2 ho2 hg2) | fail)
      have GL0 := Lib.hid (K1.out.grown hg2 (by omega))
      have GG0 := Lib.hid (KG.out.grown hg2 (by omega))
      have GW0 := Lib.hid (grown_then (grown_of_below B1.out (some b)) hg2)
      have OS0 := Lib.hid ho2
      have hs0 : w1.heap.size < w2.heap.size := GL0.out.lt
      clear ho2 hg2 c0 c1 c2 O1 K1 KG B1 HO HD
      refine wp_loop_rounds 4 ?_
      rw [rounds_succ]
      obtain ⟨g0, g1, g2, g3, g4, g5, g6, g7, g8⟩ := G9.cells9 GG0.out
      obtain ⟨c0, c1, c2⟩ := bk3t GL0.out
      have hsz : w.heap.size ≤ w2.heap.size := GW0.out.size
      have hgz : w.heap.size < w2.heap.size := GG0.out.lt
      have hne : b ≠ w2.heap.size := by omega
      have OC := Lib.hid (OS0.out.kept (grown_alloc w2 (.cells #[.int .i64 (l0 + 1), .int .i64 l1, .int .i64 l2] 43) none) (by simp))
      have GC := Lib.hid (grown_then GW0.out (grown_alloc w2 (.cells #[.int .i64 (l0 + 1), .int .i64 l1, .int .i64 l2] 43) (some b)))
      have LC := Lib.hid (GL0.out.alloc (.cells #[.int .i64 (l0 + 1), .int .i64 l1, .int .i64 l2] 43))
      have QC := Lib.hid (GG0.out.alloc (.cells #[.int .i64 (l0 + 1), .int .i64 l1, .int .i64 l2] 43))
      go_wp2_with fail
      refine (I0'.out ((l0, l1, l2) :: S) (n + 1) _ HM.out HN.out HS.out OC.out).mono ?_
      rintro e w3 ⟨v, S1, n1, rfl, ho, hn, hgr, hg⟩
      have OS1 := Lib.hid ho
      have HN1 := Lib.hid hn
      have GR1 := Lib.hid hgr
      have HS1 := Lib.hid hgr.box
      have HM1 := Lib.hid (Nat.le_trans (miss_le hgr.sub) HM.out)
      have GL1 := Lib.hid (LC.out.grown hg (by omega))
      have GG1 := Lib.hid (QC.out.grown hg (by omega))
      have GW1 := Lib.hid (grown_then GC.out hg)
      have hs1 : w1.heap.size < w3.heap.size := GL1.out.lt
      clear ho hn hgr hg g0 g1 g2 g3 g4 g5 g6 g7 g8 c0 c1 c2 hsz hgz hne OC GC LC QC GL0 GG0 GW0
      go_wp2_with fail
      rw [rounds_succ]
      obtain ⟨g0, g1, g2, g3, g4, g5, g6, g7, g8⟩ := G9.cells9 GG1.out
      obtain ⟨c0, c1, c2⟩ := bk3t GL1.out
      have hsz : w.heap.size ≤ w3.heap.size := GW1.out.size
      have hgz : w.heap.size < w3.heap.size := GG1.out.lt
      have hne : b ≠ w3.heap.size := by omega
      have OC := Lib.hid (OS1.out.kept (grown_alloc w3 (.cells #[.int .i64 l0, .int .i64 (l1 + 1), .int .i64 l2] 43) none) (by simp))
      have GC := Lib.hid (grown_then GW1.out (grown_alloc w3 (.cells #[.int .i64 l0, .int .i64 (l1 + 1), .int .i64 l2] 43) (some b)))
      have LC := Lib.hid (GL1.out.alloc (.cells #[.int .i64 l0, .int .i64 (l1 + 1), .int .i64 l2] 43))
      have QC := Lib.hid (GG1.out.alloc (.cells #[.int .i64 l0, .int .i64 (l1 + 1), .int .i64 l2] 43))
      go_wp2_with fail
      refine (I1'.out S1 n1 _ HM1.out HN1.out HS1.out OC.out).mono ?_
      rintro e w4 ⟨v, S2, n2, rfl, ho, hn, hgr, hg⟩
      have OS2 := Lib.hid ho
      have HN2 := Lib.hid hn
      have GR2 := Lib.hid hgr
      have HS2 := Lib.hid hgr.box
      have HM2 := Lib.hid (Nat.le_trans (miss_le hgr.sub) HM1.out)
      have GL2 := Lib.hid (LC.out.grown hg (by omega))
      have GG2 := Lib.hid (QC.out.grown hg (by omega))
      have GW2 := Lib.hid (grown_then GC.out hg)
      have hs2 : w1.heap.size < w4.heap.size := GL2.out.lt
      clear ho hn hgr hg g0 g1 g2 g3 g4 g5 g6 g7 g8 c0 c1 c2 hsz hgz hne OC GC LC QC GL1 GG1 GW1
      go_wp2_with fail
      rw [rounds_succ]
      obtain ⟨g0, g1, g2, g3, g4, g5, g6, g7, g8⟩ := G9.cells9 GG2.out
      obtain ⟨c0, c1, c2⟩ := bk3t GL2.out
      have hsz : w.heap.size ≤ w4.heap.size := GW2.out.size
      have hgz : w.heap.size < w4.heap.size := GG2.out.lt
      have hne : b ≠ w4.heap.size := by omega
      have OC := Lib.hid (OS2.out.kept (grown_alloc w4 (.cells #[.int .i64 l0, .int .i64 l1, .int .i64 (l2 + 1)] 43) none) (by simp))
      have GC := Lib.hid (grown_then GW2.out (grown_alloc w4 (.cells #[.int .i64 l0, .int .i64 l1, .int .i64 (l2 + 1)] 43) (some b)))
      have LC := Lib.hid (GL2.out.alloc (.cells #[.int .i64 l0, .int .i64 l1, .int .i64 (l2 + 1)] 43))
      have QC := Lib.hid (GG2.out.alloc (.cells #[.int .i64 l0, .int .i64 l1, .int .i64 (l2 + 1)] 43))
      go_wp2_with fail
      refine (I2'.out S2 n2 _ HM2.out HN2.out HS2.out OC.out).mono ?_
      rintro e w5 ⟨v, S3, n3, rfl, ho, hn, hgr, hg⟩
      have OS3 := Lib.hid ho
      have HN3 := Lib.hid hn
      have GR3 := Lib.hid hgr
      have HS3 := Lib.hid hgr.box
      have HM3 := Lib.hid (Nat.le_trans (miss_le hgr.sub) HM2.out)
      have GL3 := Lib.hid (LC.out.grown hg (by omega))
      have GG3 := Lib.hid (QC.out.grown hg (by omega))
      have GW3 := Lib.hid (grown_then GC.out hg)
      have hs3 : w1.heap.size < w5.heap.size := GL3.out.lt
      clear ho hn hgr hg g0 g1 g2 g3 g4 g5 g6 g7 g8 c0 c1 c2 hsz hgz hne OC GC LC QC GL2 GG2 GW2
      go_wp2_with fail
      rw [rounds_succ]
      go_wp2_with fail
      go_end0
      exact ⟨_, S3, n3, rfl, OS3.out, HN3.out, grows_three HL.out HI.out GR1.out GR2.out GR3.out, GW3.out⟩
end Go.Proofs.YtjijgagdaolkcaaGreat
/- The program's LatticeIndex, ClassLeader, SameClass. -/
namespace Go.Proofs.YtjijgagdaolkcaaGreat
open Go Go.RowKit Go.Lib

set_option maxRecDepth 100000 in
set_option maxHeartbeats 800000 in
theorem i_index8 (m : List (List Int)) (v : Value) (w : World) (hv : Rw w v m) :
    Calls Tryz.prog 18 #[v] w (Quiet w (.int .i64 (indexR m))) := by
  have HV := Lib.hid hv
  obtain ⟨v, cc, rfl, _, _⟩ := hv.shape
  clear hv
  have hb := detR_bd m
  unfold indexR
  have CD := Lib.hid (fun W h => i_detof m (.slice v m.length cc) W h)
  generalize detR m = d at hb CD
  obtain ⟨b1, b2⟩ := hb
  have hn : IntKind.i64.wrap (-d) = -d := IntWalk.i64_in _ (by omega)
  have HE := Lib.hid (show max d (-d) = (d.natAbs : Int) by omega)
  go_enter Tryz.func18, Tryz.ntmps18
  go_wp2_with fail
  refine (CD.out _ HV.out).mono ?_
  rintro e w1 ⟨rfl, hb⟩
  have HB := Lib.hid hb
  clear hb
  by_cases h : -d ≤ d
  · have E := Lib.hid (show (d.natAbs : Int) = d by omega)
    go_wp2
    go_ret
    exact ⟨by rw [E.out]; rfl, HB.out⟩
  · have E := Lib.hid (show (d.natAbs : Int) = -d by omega)
    go_wp2
    go_ret
    exact ⟨by rw [E.out]; rfl, HB.out⟩
theorem splice_pad {x : List Int} (h1 : 1 ≤ x.length) (h3 : x.length ≤ 3) : splice [Value.int .i64 0, .int .i64 0, .int .i64 0] 0 (intVals x) = [.int .i64 (padV x).1, .int .i64 (padV x).2.1, .int .i64 (padV x).2.2] := by
  match x, h1, h3 with
  | [a], _, _ => rfl
  | [a, b], _, _ => rfl
  | [a, b, c], _, _ => rfl
theorem pad_small {x : List Int} (h : isV x = true) : (-1000 ≤ (padV x).1 ∧ (padV x).1 ≤ 1000) ∧ (-1000 ≤ (padV x).2.1 ∧ (padV x).2.1 ≤ 1000) ∧ (-1000 ≤ (padV x).2.2 ∧ (padV x).2.2 ≤ 1000) := by
  unfold isV at h
  rw [Bool.and_eq_true] at h
  have hb := small_bd h.2
  have g : ∀ k, -1000 ≤ x.getD k 0 ∧ x.getD k 0 ≤ 1000 := fun k => by
    by_cases hk : k < x.length
    · rw [List.getD_eq_getElem?_getD, List.getElem?_eq_getElem hk]; exact hb k hk
    · rw [List.getD_eq_getElem?_getD, List.getElem?_eq_none (by omega)]; simp
  exact ⟨g 0, g 1, g 2⟩
theorem sm_of {m : List (List Int)} (hm : isM m = true) {h : H6} (_k : h.Ok) (hp : padM m = h.rows) : h.Sm := by
  have hq := pad_sq (by omega) (isM_t hm).1 (isM_t hm).2.1 (isM_sq hm)
  rw [hp] at hq
  have q0 := (hq.2 0 (by simp [H6.rows])).2 0 (by simp [H6.rows])
  have q1 := (hq.2 1 (by simp [H6.rows])).2 1 (by simp [H6.rows])
  have q2 := (hq.2 2 (by simp [H6.rows])).2 2 (by simp [H6.rows])
  simp [H6.rows] at q0 q1 q2
  exact ⟨by omega, by omega, by omega⟩
theorem isV_cut {t : T3} {n : Nat} (h1 : 1 ≤ n) (h3 : n ≤ 3) (hx : 0 ≤ t.1 ∧ t.1 ≤ 500) (hy : 0 ≤ t.2.1 ∧ t.2.1 ≤ 500) (hz : 0 ≤ t.2.2 ∧ t.2.2 ≤ 500) : isV ((rowT t).take n) = true := by
  obtain ⟨x, y, z⟩ := t
  simp only at hx hy hz
  match n, h1, h3 with
  | 1, _, _ => simp [isV, rowT, inR, small]; omega
  | 2, _, _ => simp [isV, rowT, inR, small]; omega
  | 3, _, _ => simp [isV, rowT, inR, small]; omega
theorem leadR_no {m : List (List Int)} {x : List Int} (h : ¬ ((hermR m).2 = true ∧ isV x = true ∧ x.length = m.length)) : leadR m x = ([], false) := if_neg h
theorem got_mk {w : World} {r r' : List Int × Bool} {e : Ending} {w' : World} (h : r' = r) (g : Got w r e w') : Got w r' e w' := by subst h; exact g
set_option maxRecDepth 100000 in
set_option maxHeartbeats 1600000 in
theorem i_clead (m : List (List Int)) (x : List Int) (v u : Value) (w : World) (hv : Rw w v m) (hu : Sl w u (intVals x)) :
    Calls Tryz.prog 9 #[v, u] w (Got w (leadR m x)) := by
  have HV := Lib.hid hv
  have HU := Lib.hid hu
  obtain ⟨a, ac, rfl, am, _⟩ := hv.shape
  obtain ⟨b, bc, rfl, bm, _⟩ := hu.shape
  rw [intVals_len] at bm HU ⊢
  unfold maxLen at am bm
  clear hv hu
  by_cases h1 : (hermR m).2 = true
  · obtain ⟨hd, hm2, hl2⟩ := herm_mat h1
    obtain ⟨h, n1, n3, hp, _, ok, _, hlen, _⟩ := herm_pad6 hd
    have sm := sm_of hm2 ok hp
    have H1 := Lib.hid h1
    have HL := Lib.hid hl2
    by_cases h2 : isV x = true
    · by_cases h3 : x.length = m.length
      · have HR := Lib.hid (show leadR m x = (leadL (hermL m) x, true) from (if_pos ⟨h1, h2, h3⟩).trans (by rw [hl2]))
        have CR := (lead_cut hd hp h3).1
        have HE := Lib.hid h2
        have hx1 : 1 ≤ x.length := by omega
        have hx3 : x.length ≤ 3 := by omega
        have ps := pad_small h2
        have CN := Lib.hid (fun W A hW => i_num x _ _ _ (splice_pad hx1 hx3) hx1 hx3 A W hW)
        have CG := Lib.hid (fun W A hW => i_gridof (m := hermL m) (n := m.length) (M := 100) n1 n3 (by rw [← hlen]; exact isM_sq hm2) hp A W hW)
        have CL := Lib.hid (fun W => i_leader h ok sm (padV x) (by omega) (by omega) (by omega) W)
        have hin := lead_in ok (padV x)
        have hbd := lead_bd sm hin
        have CV := Lib.hid (fun W => i_vecof (leadT h (padV x)).1 (leadT h (padV x)).2.1 (leadT h (padV x)).2.2 x.length hx1 hx3 W)
        have hcut := isV_cut (n := m.length) n1 n3 hbd.1 hbd.2.1 hbd.2.2
        have HC := Lib.hid (show vecR ([(leadT h (padV x)).1, (leadT h (padV x)).2.1, (leadT h (padV x)).2.2].take x.length) = leadR m x by
          rw [HR.out, ← CR, h3]
          exact if_pos hcut)
        have CF := Lib.hid (show ∀ W A, Rw W A m → Calls Tryz.prog 30 #[A] W (GotR W (hermL m, true)) from fun W A hW => by have h0 := i_hermof m A W hW; rwa [show hermR m = (hermL m, true) from Prod.ext hl2 h1] at h0)
        have HZ := Lib.hid h3
        have HLN := Lib.hid hlen
        have hne : ((x.length : Int) != (m.length : Int)) = false := by rw [h3]; simp
        clear ps hbd hcut hin CR h2 h1 hm2 hl2 hp hd ok sm h3 hlen
        have hg : gridV h = .agg #[.int .i64 h.d0, .int .i64 h.a, .int .i64 h.b, .int .i64 0, .int .i64 h.d1, .int .i64 h.c, .int .i64 0, .int .i64 0, .int .i64 h.d2] := rfl
        rw [hg] at CL
        unfold encV at CL
        clear hg
        generalize padV x = t at CN CL CV HC
        generalize leadT h t = l at CL CV HC
        obtain ⟨t0, t1, t2⟩ := t
        obtain ⟨l0, l1, l2⟩ := l
        simp only at CN CL CV HC
        go_enter Tryz.func9, Tryz.ntmps9
        go_wp2_with fail
        refine (CF.out _ _ HV.out).mono ?_
        rintro e w1 ⟨⟨r, rfl, ho⟩, hb⟩
        have B1 := Lib.hid hb
        have O1 := Lib.hid ho.rw
        obtain ⟨ra, rc, rfl, _, _⟩ := ho.rw.shape
        clear hb ho
        go_wp2_with fail
        refine (i_isv x _ _ (HU.out.below B1.out)).mono ?_
        rintro e w2 ⟨rfl, hb⟩
        have B2 := Lib.hid (B1.out.trans (hb.mono B1.out.size))
        have O2 := Lib.hid (O1.out.below hb)
        rw [HE.out]
        clear hb
        go_wp2_with fail
        refine (CG.out _ _ O2.out).mono ?_
        rintro e w3 ⟨rfl, hb⟩
        have B3 := Lib.hid (B2.out.trans (hb.mono B2.out.size))
        clear hb
        go_wp2_with fail
        refine (CN.out _ _ (HU.out.below B3.out)).mono ?_
        rintro e w4 ⟨rfl, hb⟩
        have B4 := Lib.hid (B3.out.trans (hb.mono B3.out.size))
        clear hb
        go_wp2_with fail
        refine (CL.out _).mono ?_
        rintro e w5 ⟨rfl, hb⟩
        have B5 := Lib.hid (B4.out.trans (hb.mono B4.out.size))
        clear hb
        go_wp2_with fail
        refine (CV.out _).mono ?_
        rintro e w6 ⟨⟨q, rfl, ho⟩, hb⟩
        rw [HC.out] at ho ⊢
        have B6 := Lib.hid (B5.out.trans (hb.mono B5.out.size))
        have O6 := Lib.hid (ho.mono (lo' := w.heap.size) B5.out.size (Nat.le_refl _))
        clear hb ho
        go_wp2_with fail
        go_ret2
        exact ⟨⟨_, rfl, O6.out⟩, B6.out⟩
      · have HR := Lib.hid (leadR_no (m := m) (x := x) (fun h => h3 h.2.2))
        have HE := Lib.hid h2
        have hne : ((x.length : Int) != (m.length : Int)) = true := by simp; omega
        clear h3 h2 h1 hm2 hd hp ok sm hlen hl2 n1 n3
        go_enter Tryz.func9, Tryz.ntmps9
        go_wp2_with fail
        refine (i_hermof m _ _ HV.out).mono ?_
        rintro e w1 ⟨⟨r, rfl, ho⟩, hb⟩
        have B1 := Lib.hid hb
        obtain ⟨ra, rc, rfl, _, _⟩ := ho.rw.shape
        rw [H1.out]
        clear hb ho
        go_wp2_with fail
        refine (i_isv x _ _ (HU.out.below B1.out)).mono ?_
        rintro e w2 ⟨rfl, hb⟩
        have B2 := Lib.hid (B1.out.trans (hb.mono B1.out.size))
        rw [HE.out]
        clear hb
        go_wp2_with fail
        go_ret2
        rw [HR.out]
        exact ⟨⟨_, rfl, OwnV.nil⟩, B2.out⟩
    · have HR := Lib.hid (leadR_no (m := m) (x := x) (fun h => h2 h.2.1))
      have HE := Lib.hid (bool_f h2)
      clear h2 h1 hm2 hd hp ok sm hlen hl2 n1 n3
      go_enter Tryz.func9, Tryz.ntmps9
      go_wp2_with fail
      refine (i_hermof m _ _ HV.out).mono ?_
      rintro e w1 ⟨⟨r, rfl, ho⟩, hb⟩
      have B1 := Lib.hid hb
      obtain ⟨ra, rc, rfl, _, _⟩ := ho.rw.shape
      rw [H1.out]
      clear hb ho
      go_wp2_with fail
      refine (i_isv x _ _ (HU.out.below B1.out)).mono ?_
      rintro e w2 ⟨rfl, hb⟩
      have B2 := Lib.hid (B1.out.trans (hb.mono B1.out.size))
      rw [HE.out]
      clear hb
      go_wp2_with fail
      go_ret2
      rw [HR.out]
      exact ⟨⟨_, rfl, OwnV.nil⟩, B2.out⟩
  · have HR := Lib.hid (leadR_no (m := m) (x := x) (fun h => h1 h.1))
    have HE := Lib.hid (bool_f h1)
    clear h1
    go_enter Tryz.func9, Tryz.ntmps9
    go_wp2_with fail
    refine (i_hermof m _ _ HV.out).mono ?_
    rintro e w1 ⟨⟨r, rfl, ho⟩, hb⟩
    have B1 := Lib.hid hb
    obtain ⟨ra, rc, rfl, _, _⟩ := ho.rw.shape
    rw [HE.out]
    clear hb ho
    go_wp2_with fail
    go_ret2
    rw [HR.out]
    exact ⟨⟨_, rfl, OwnV.nil⟩, B1.out⟩
set_option maxRecDepth 100000 in
set_option maxHeartbeats 1600000 in
theorem i_same8 (m : List (List Int)) (x y : List Int) (v u t : Value) (w : World) (hv : Rw w v m) (hu : Sl w u (intVals x)) (ht : Sl w t (intVals y)) :
    Calls Tryz.prog 16 #[v, u, t] w (Quiet w (.bool (sameR m x y))) := by
  have HV := Lib.hid hv
  have HU := Lib.hid hu
  have HT := Lib.hid ht
  obtain ⟨a, ac, rfl, am, _⟩ := hv.shape
  obtain ⟨b, bc, rfl, bm, _⟩ := hu.shape
  obtain ⟨d, dc, rfl, dm, _⟩ := ht.shape
  rw [intVals_len] at bm dm HU HT ⊢
  rw [intVals_len]
  unfold maxLen at am bm dm
  clear hv hu ht
  have C1 := Lib.hid (fun W A B h k => i_clead m x A B W h k)
  have C2 := Lib.hid (fun W A B h k => i_clead m y A B W h k)
  unfold sameR
  generalize leadR m x = p at C1
  generalize leadR m y = q at C2
  obtain ⟨p1, p2⟩ := p
  obtain ⟨q1, q2⟩ := q
  simp only
  go_enter Tryz.func16, Tryz.ntmps16
  go_wp2_with fail
  refine (C1.out _ _ _ HV.out HU.out).mono ?_
  rintro e w1 ⟨⟨r, rfl, ho⟩, hb⟩
  have B1 := Lib.hid hb
  have O1 := Lib.hid ho.sl
  obtain ⟨ra, rc, rfl, _, _⟩ := ho.sl.shape
  clear hb ho
  go_wp2_with fail
  refine (C2.out _ _ _ (HV.out.below B1.out) (HT.out.below B1.out)).mono ?_
  rintro e w2 ⟨⟨r2, rfl, ho⟩, hb⟩
  have B2 := Lib.hid (B1.out.trans (hb.mono B1.out.size))
  have O2 := Lib.hid (O1.out.below hb)
  have O3 := Lib.hid ho.sl
  obtain ⟨sa, sc, rfl, _, _⟩ := ho.sl.shape
  clear hb ho
  cases p2 with
  | false =>
    go_wp2_with fail
    go_ret
    exact ⟨rfl, B2.out⟩
  | true =>
    cases q2 with
    | false =>
      go_wp2_with fail
      go_ret
      exact ⟨rfl, B2.out⟩
    | true =>
      go_wp2_with fail
      refine (i_sameP p1 q1 _ _ _ O2.out O3.out).mono ?_
      rintro e w3 ⟨rfl, hb⟩
      have B3 := Lib.hid (B2.out.trans (hb.mono B2.out.size))
      clear hb
      go_wp2_with fail
      go_ret
      exact ⟨rfl, B3.out⟩
end Go.Proofs.YtjijgagdaolkcaaGreat
