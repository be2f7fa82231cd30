/- The program's dot and isInAll. -/
import Derived.Test.YtmogncpkdkdodaaPtB
import Derived.Test.YtmogncpkdkdodaaFxB
import Derived.Test.YtmogncpkdkdodaaFxE
namespace Go.Proofs.Ytmogncpkdkdodaa
open Go Go.RowKit Go.Lib

theorem Bk.c3 {w : World} {b : Nat} {x y z : Value} {T : TypeId} (h : Bk w b #[x, y, z] T) : w.cell? ⟨b, 0, none⟩ = some x ∧ w.cell? ⟨b, 1, none⟩ = some y ∧ w.cell? ⟨b, 2, none⟩ = some z := ⟨h.cell 0 rfl, h.cell 1 rfl, h.cell 2 rfl⟩
theorem Bk.c4 {w : World} {b : Nat} {x y z u : Value} {T : TypeId} (h : Bk w b #[x, y, z, u] T) : w.cell? ⟨b, 0, none⟩ = some x ∧ w.cell? ⟨b, 1, none⟩ = some y ∧ w.cell? ⟨b, 2, none⟩ = some z ∧ w.cell? ⟨b, 3, none⟩ = some u := ⟨h.cell 0 rfl, h.cell 1 rfl, h.cell 2 rfl, h.cell 3 rfl⟩
theorem prod1000 {a b : Int} (h1 : -1000 ≤ a ∧ a ≤ 1000) (h2 : -10000000 ≤ b ∧ b ≤ 10000000) : -10000000000 ≤ a * b ∧ a * b ≤ 10000000000 := by
  have := mul_bd h1.1 h1.2 h2.1 h2.2
  omega

set_option maxRecDepth 100000 in
set_option maxHeartbeats 800000 in
theorem i_dot3 (a b c x y z : Int) (w : World) (ha : -1000 ≤ a ∧ a ≤ 1000) (hb : -1000 ≤ b ∧ b ≤ 1000) (hc : -1000 ≤ c ∧ c ≤ 1000) (hx : -10000000 ≤ x ∧ x ≤ 10000000) (hy : -10000000 ≤ y ∧ y ≤ 10000000) (hz : -10000000 ≤ z ∧ z ≤ 10000000) :
    Calls Try.prog 55 #[.agg #[.int .i64 a, .int .i64 b, .int .i64 c], .agg #[.int .i64 x, .int .i64 y, .int .i64 z]] w (Quiet w (.int .i64 (a * x + b * y + c * z))) := by
  obtain ⟨p1, p2⟩ := prod1000 ha hx
  obtain ⟨p3, p4⟩ := prod1000 hb hy
  obtain ⟨p5, p6⟩ := prod1000 hc hz
  clear ha hb hc hx hy hz
  go_enter Try.func55, Try.ntmps55
  go_wp2
  refine wp_loop_rounds 4 ?_
  rw [rounds_succ]
  go_wp2
  go_region
  go_wp2
  rw [rounds_succ]
  go_wp2
  go_region
  go_wp2
  rw [rounds_succ]
  go_wp2
  go_region
  go_wp2
  rw [rounds_succ]
  go_wp2
  go_ret
  exact ⟨ret_int (by omega), by first | exact (((below2 w _ _).drew).drew).drew⟩
theorem keep7D {w W : World} {p1 p2 p3 p4 p5 p6 p7 : Addr} {x1 x2 x3 x4 x5 x6 x7 : Value} (h1 : W.cell? p1 = some x1) (h2 : W.cell? p2 = some x2) (h3 : W.cell? p3 = some x3) (h4 : W.cell? p4 = some x4) (h5 : W.cell? p5 = some x5) (h6 : W.cell? p6 = some x6) (h7 : W.cell? p7 = some x7) (hb : Below w.heap.size w W) : W.drew.cell? p1 = some x1 ∧ W.drew.cell? p2 = some x2 ∧ W.drew.cell? p3 = some x3 ∧ W.drew.cell? p4 = some x4 ∧ W.drew.cell? p5 = some x5 ∧ W.drew.cell? p6 = some x6 ∧ W.drew.cell? p7 = some x7 ∧ Below w.heap.size w W.drew :=
  ⟨h1, h2, h3, h4, h5, h6, h7, hb.drew⟩
theorem keep7E {w W w1 : World} {p1 p2 p3 p4 p5 p6 p7 : Addr} {x1 x2 x3 x4 x5 x6 x7 : Value} (l1 : p1.block < w.heap.size) (l2 : p2.block < w.heap.size) (l3 : p3.block < w.heap.size) (l4 : p4.block < w.heap.size) (l5 : p5.block < w.heap.size) (l6 : p6.block < w.heap.size) (l7 : p7.block < w.heap.size) (h1 : W.cell? p1 = some x1) (h2 : W.cell? p2 = some x2) (h3 : W.cell? p3 = some x3) (h4 : W.cell? p4 = some x4) (h5 : W.cell? p5 = some x5) (h6 : W.cell? p6 = some x6) (h7 : W.cell? p7 = some x7) (hb : Below w.heap.size w W) (h : Below W.heap.size W w1) : w1.cell? p1 = some x1 ∧ w1.cell? p2 = some x2 ∧ w1.cell? p3 = some x3 ∧ w1.cell? p4 = some x4 ∧ w1.cell? p5 = some x5 ∧ w1.cell? p6 = some x6 ∧ w1.cell? p7 = some x7 ∧ Below w.heap.size w w1 :=
  ⟨(h.cell (Nat.lt_of_lt_of_le l1 hb.size)).trans h1, (h.cell (Nat.lt_of_lt_of_le l2 hb.size)).trans h2, (h.cell (Nat.lt_of_lt_of_le l3 hb.size)).trans h3, (h.cell (Nat.lt_of_lt_of_le l4 hb.size)).trans h4, (h.cell (Nat.lt_of_lt_of_le l5 hb.size)).trans h5, (h.cell (Nat.lt_of_lt_of_le l6 hb.size)).trans h6, (h.cell (Nat.lt_of_lt_of_le l7 hb.size)).trans h7, hb.trans (h.mono hb.size)⟩

theorem inA_take {hs : List Hf} {t : List Int} {k : Nat} (h : k < hs.length) (h1 : inA (hs.take k) t = true) (h2 : dot3 hs[k].1 t ≤ hs[k].2) : inA (hs.take (k + 1)) t = true := all_take' h h1 (decide_eq_true h2)
theorem inA_not {hs : List Hf} {t : List Int} {k : Nat} (h : k < hs.length) (h2 : ¬ dot3 hs[k].1 t ≤ hs[k].2) : inA hs t = false := all_not' h (decide_eq_false h2)

set_option maxRecDepth 100000 in
set_option maxHeartbeats 1600000 in
theorem i_inall (hs : List Hf) (x y z : Int) (g c lo hi : Nat) (w : World) (hv : OwF 91 lo hi w (.slice (some ⟨g, 0, none⟩) hs.length c) hs) (hl : hs.length ≤ 8)
    (hd : ∀ (k : Nat) (hk : k < hs.length), (-1000 ≤ hs[k].1.getD 0 0 ∧ hs[k].1.getD 0 0 ≤ 1000) ∧ (-1000 ≤ hs[k].1.getD 1 0 ∧ hs[k].1.getD 1 0 ≤ 1000) ∧ (-1000 ≤ hs[k].1.getD 2 0 ∧ hs[k].1.getD 2 0 ≤ 1000))
    (hx : -10000000 ≤ x ∧ x ≤ 10000000) (hy : -10000000 ≤ y ∧ y ≤ 10000000) (hz : -10000000 ≤ z ∧ z ≤ 10000000) :
    Calls Try.prog 80 #[.slice (some ⟨g, 0, none⟩) hs.length c, .agg #[.int .i64 x, .int .i64 y, .int .i64 z]] w (Quiet w (.bool (inA hs [x, y, z]))) := by
  have HV := Lib.hid hv
  have HD := Lib.hid (fun (k : Nat) (hk : k < hs.length) (W : World) => i_dot3 _ _ _ x y z W (hd k hk).1 (hd k hk).2.1 (hd k hk).2.2 hx hy hz)
  have KX := Lib.hid (Bk.new w #[.int .i64 x, .int .i64 y, .int .i64 z] 77)
  have B0 := Lib.hid (below1 w (.cells #[.int .i64 x, .int .i64 y, .int .i64 z] 77))
  clear hv hd hx hy hz
  go_enter Try.func80, Try.ntmps80
  go_wp2
  go_loopw [9] (fun i wr => ∃ k : Nat, k ≤ hs.length ∧ i = .int .i64 k ∧ inA (hs.take k) [x, y, z] = true ∧ Below (w.heap.size + 1) (w.alloc (.cells #[.int .i64 x, .int .i64 y, .int .i64 z] 77)) wr) (fun i _ => hs.length - (RowKit.intOf i).toNat)
  case atStart => exact ⟨0, Nat.zero_le _, rfl, rfl, Below.refl _ _⟩
  case round =>
    obtain ⟨k, hk, rfl, ht, hbr⟩ := hrel
    have HT := Lib.hid ht
    have HS := Lib.hid (show w.heap.size + 1 ≤ wr.heap.size by have := hbr.size; simpa using this)
    have HA := Lib.hid (B0.out.trans (hbr.mono (by omega)))
    have HX := Lib.hid (KX.out.since hbr (by omega))
    have HBr := Lib.hid hbr
    clear ht hbr
    by_cases hlt : k < hs.length
    · obtain ⟨b, e, _, _, hb2, _, ⟨q0, q1, q2, q3⟩, _⟩ := HV.out.at k hlt rfl
      simp only [Option.some.injEq, Addr.mk.injEq, and_true] at e
      subst e
      rw [← HA.out.cell (p := ⟨g, k * 4, none⟩) hb2] at q0
      rw [← HA.out.cell (p := ⟨g, k * 4 + 1, none⟩) hb2] at q1
      rw [← HA.out.cell (p := ⟨g, k * 4 + 2, none⟩) hb2] at q2
      rw [← HA.out.cell (p := ⟨g, k * 4 + 3, none⟩) hb2] at q3
      have CD := Lib.hid (HD.out k hlt)
      obtain ⟨p, hp⟩ : ∃ p : Int, hs[k].1.getD 0 0 * x + hs[k].1.getD 1 0 * y + hs[k].1.getD 2 0 * z = p := ⟨_, rfl⟩
      have HP := Lib.hid (show dot3 hs[k].1 [x, y, z] = p from hp)
      rw [hp] at CD
      have HN := Lib.hid (below1 wr (.cells #[.int .i64 (hs[k].1.getD 0 0), .int .i64 (hs[k].1.getD 1 0), .int .i64 (hs[k].1.getD 2 0), .int .i64 hs[k].2] 91))
      have KH := Lib.hid (Bk.new wr #[.int .i64 (hs[k].1.getD 0 0), .int .i64 (hs[k].1.getD 1 0), .int .i64 (hs[k].1.getD 2 0), .int .i64 hs[k].2] 91)
      generalize hs[k].1.getD 0 0 = a at *
      generalize hs[k].1.getD 1 0 = b at *
      generalize hs[k].1.getD 2 0 = d at *
      generalize hbb : hs[k].2 = B at *
      clear hp
      have HB1 := Lib.hid (HBr.out.trans ((below1 wr (.cells #[.int .i64 a, .int .i64 b, .int .i64 d, .int .i64 B] 91)).mono HS.out))
      obtain ⟨m1, m2, m3, m4⟩ := KH.out.c4
      have KX2 := HX.out.alloc (.cells #[.int .i64 a, .int .i64 b, .int .i64 d, .int .i64 B] 91)
      obtain ⟨m5, m6, m7⟩ := KX2.c3
      have n1 := KH.out.lt
      have n2 := KX2.lt
      clear KX2
      go_wp2_with fail
      go_region_held3 (fun w' => w'.cell? ⟨wr.heap.size, 0, none⟩ = some (.int .i64 a) ∧ w'.cell? ⟨wr.heap.size, 1, none⟩ = some (.int .i64 b) ∧ w'.cell? ⟨wr.heap.size, 2, none⟩ = some (.int .i64 d) ∧ w'.cell? ⟨wr.heap.size, 3, none⟩ = some (.int .i64 B) ∧ w'.cell? ⟨w.heap.size, 0, none⟩ = some (.int .i64 x) ∧ w'.cell? ⟨w.heap.size, 1, none⟩ = some (.int .i64 y) ∧ w'.cell? ⟨w.heap.size, 2, none⟩ = some (.int .i64 z) ∧ Below (wr.alloc (.cells #[.int .i64 a, .int .i64 b, .int .i64 d, .int .i64 B] 91)).heap.size (wr.alloc (.cells #[.int .i64 a, .int .i64 b, .int .i64 d, .int .i64 B] 91)) w')
        (first
          | with_reducible exact keep7D m1 m2 m3 m4 m5 m6 m7 (Below.refl _ _)
          | (go_split_ands; with_reducible exact keep7E n1 n1 n1 n1 n2 n2 n2 (by assumption) (by assumption) (by assumption) (by assumption) (by assumption) (by assumption) (by assumption) (by assumption) (by assumption))
          | go_keep)
        (first | (go_at_call 55; refine (CD.out _).mono ?_; rintro e w2 ⟨rfl, hb1⟩))
      rename_i hH
      have HB2 := Lib.hid (HB1.out.trans (hH.2.2.2.2.2.2.2.mono (by have := HS.out; simp; omega)))
      clear hH m1 m2 m3 m4 m5 m6 m7 q0 q1 q2 q3
      have HA1 := Lib.hid (B0.out.trans (HB2.out.mono (by omega)))
      by_cases hd : p ≤ B
      · have hd2 : ¬ B < p := by omega
        go_wp2
        exact ⟨⟨k + 1, by omega, by go_num, inA_take hlt HT.out (by rw [HP.out, hbb]; exact hd), HB2.out⟩, by simp [RowKit.intOf]; omega⟩
      · have hd2 : B < p := by omega
        go_wp2
        go_ret
        exact ⟨ret_bool (inA_not hlt (by rw [HP.out, hbb]; omega)).symm, HA1.out⟩
    · obtain rfl : k = hs.length := by omega
      have E2 := Lib.hid (show inA hs [x, y, z] = true by have h := HT.out; rw [List.take_length] at h; exact h)
      go_wp2
      go_ret
      exact ⟨ret_bool E2.out.symm, HA.out⟩
end Go.Proofs.Ytmogncpkdkdodaa
