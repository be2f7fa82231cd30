/- The program's dot and isInAll. -/
import Derived.Test.YtckpifcdlmfabaaPtB
import Derived.Test.YtckpifcdlmfabaaMba
import Derived.Test.YtckpifcdlmfabaaMax
import Derived.Test.YtckpifcdlmfabaaMaw
namespace Go.Proofs.Ytckpifcdlmfabaa
open Go Go.RowKit Go.Lib

theorem Bk.c3 {w : World} {b : Nat} {x y z : Value} {T : TypeId} (h : Bk w b #[x, y, z] T) : w.cell? ⟨b, 0, none⟩ = some x ∧ w.cell? ⟨b, 1, none⟩ = some y ∧ w.cell? ⟨b, 2, none⟩ = some z := ⟨h.cell 0 rfl, h.cell 1 rfl, h.cell 2 rfl⟩
theorem Bk.c4 {w : World} {b : Nat} {x y z u : Value} {T : TypeId} (h : Bk w b #[x, y, z, u] T) : w.cell? ⟨b, 0, none⟩ = some x ∧ w.cell? ⟨b, 1, none⟩ = some y ∧ w.cell? ⟨b, 2, none⟩ = some z ∧ w.cell? ⟨b, 3, none⟩ = some u := ⟨h.cell 0 rfl, h.cell 1 rfl, h.cell 2 rfl, h.cell 3 rfl⟩
theorem prod1000 {a b : Int} (h1 : -1000 ≤ a ∧ a ≤ 1000) (h2 : -1000 ≤ b ∧ b ≤ 1000) : -1000000 ≤ a * b ∧ a * b ≤ 1000000 := by
  have := mul_bd h1.1 h1.2 h2.1 h2.2
  omega
theorem prodM {a b : Int} (h1 : -1000 ≤ a ∧ a ≤ 1000) (h2 : -10000000 ≤ b ∧ b ≤ 10000000) : -10000000000 ≤ a * b ∧ a * b ≤ 10000000000 := by
  have := mul_bd h1.1 h1.2 h2.1 h2.2
  omega

set_option maxRecDepth 100000 in
set_option maxHeartbeats 800000 in
theorem i_dot3 (a b c x y z : Int) (w : World) (ha : -1000 ≤ a ∧ a ≤ 1000) (hb : -1000 ≤ b ∧ b ≤ 1000) (hc : -1000 ≤ c ∧ c ≤ 1000) (hx : -10000000 ≤ x ∧ x ≤ 10000000) (hy : -10000000 ≤ y ∧ y ≤ 10000000) (hz : -10000000 ≤ z ∧ z ≤ 10000000) :
    Calls Try.prog 135 #[.agg #[.int .i64 a, .int .i64 b, .int .i64 c], .agg #[.int .i64 x, .int .i64 y, .int .i64 z]] w (Quiet w (.int .i64 (a * x + b * y + c * z))) := by
  obtain ⟨p1, p2⟩ := prodM ha hx
  obtain ⟨p3, p4⟩ := prodM hb hy
  obtain ⟨p5, p6⟩ := prodM hc hz
  clear ha hb hc hx hy hz
  go_enter Try.func135, Try.ntmps135
  go_wp2
  refine wp_loop_rounds 4 ?_
  rw [rounds_succ]
  go_wp2
  go_region
  go_wp2
  rw [rounds_succ]
  go_wp2
  go_region
  go_wp2
  rw [rounds_succ]
  go_wp2
  go_region
  go_wp2
  rw [rounds_succ]
  go_wp2
  go_ret
  exact ⟨ret_int (by omega), by first | exact (((below2 w _ _).drew).drew).drew⟩
theorem keep7D {w W : World} {p1 p2 p3 p4 p5 p6 p7 : Addr} {x1 x2 x3 x4 x5 x6 x7 : Value} (h1 : W.cell? p1 = some x1) (h2 : W.cell? p2 = some x2) (h3 : W.cell? p3 = some x3) (h4 : W.cell? p4 = some x4) (h5 : W.cell? p5 = some x5) (h6 : W.cell? p6 = some x6) (h7 : W.cell? p7 = some x7) (hb : Below w.heap.size w W) : W.drew.cell? p1 = some x1 ∧ W.drew.cell? p2 = some x2 ∧ W.drew.cell? p3 = some x3 ∧ W.drew.cell? p4 = some x4 ∧ W.drew.cell? p5 = some x5 ∧ W.drew.cell? p6 = some x6 ∧ W.drew.cell? p7 = some x7 ∧ Below w.heap.size w W.drew :=
  ⟨h1, h2, h3, h4, h5, h6, h7, hb.drew⟩
theorem keep7E {w W w1 : World} {p1 p2 p3 p4 p5 p6 p7 : Addr} {x1 x2 x3 x4 x5 x6 x7 : Value} (l1 : p1.block < w.heap.size) (l2 : p2.block < w.heap.size) (l3 : p3.block < w.heap.size) (l4 : p4.block < w.heap.size) (l5 : p5.block < w.heap.size) (l6 : p6.block < w.heap.size) (l7 : p7.block < w.heap.size) (h1 : W.cell? p1 = some x1) (h2 : W.cell? p2 = some x2) (h3 : W.cell? p3 = some x3) (h4 : W.cell? p4 = some x4) (h5 : W.cell? p5 = some x5) (h6 : W.cell? p6 = some x6) (h7 : W.cell? p7 = some x7) (hb : Below w.heap.size w W) (h : Below W.heap.size W w1) : w1.cell? p1 = some x1 ∧ w1.cell? p2 = some x2 ∧ w1.cell? p3 = some x3 ∧ w1.cell? p4 = some x4 ∧ w1.cell? p5 = some x5 ∧ w1.cell? p6 = some x6 ∧ w1.cell? p7 = some x7 ∧ Below w.heap.size w w1 :=
  ⟨(h.cell (Nat.lt_of_lt_of_le l1 hb.size)).trans h1, (h.cell (Nat.lt_of_lt_of_le l2 hb.size)).trans h2, (h.cell (Nat.lt_of_lt_of_le l3 hb.size)).trans h3, (h.cell (Nat.lt_of_lt_of_le l4 hb.size)).trans h4, (h.cell (Nat.lt_of_lt_of_le l5 hb.size)).trans h5, (h.cell (Nat.lt_of_lt_of_le l6 hb.size)).trans h6, (h.cell (Nat.lt_of_lt_of_le l7 hb.size)).trans h7, hb.trans (h.mono hb.size)⟩

theorem inA_take {hs : List Hf} {t : List Int} {k : Nat} (h : k < hs.length) (h1 : inA (hs.take k) t = true) (h2 : dot3 hs[k].1 t ≤ hs[k].2) : inA (hs.take (k + 1)) t = true := all_take' h h1 (decide_eq_true h2)
theorem inA_not {hs : List Hf} {t : List Int} {k : Nat} (h : k < hs.length) (h2 : ¬ dot3 hs[k].1 t ≤ hs[k].2) : inA hs t = false := all_not' h (decide_eq_false h2)

set_option maxRecDepth 100000 in
set_option maxHeartbeats 1600000 in
theorem i_inall (hs : List Hf) (x y z : Int) (g c lo hi : Nat) (w : World) (hv : OwF 59 lo hi w (.slice (some ⟨g, 0, none⟩) hs.length c) hs) (hl : hs.length ≤ 8)
    (hd : ∀ (k : Nat) (hk : k < hs.length), (-1000 ≤ hs[k].1.getD 0 0 ∧ hs[k].1.getD 0 0 ≤ 1000) ∧ (-1000 ≤ hs[k].1.getD 1 0 ∧ hs[k].1.getD 1 0 ≤ 1000) ∧ (-1000 ≤ hs[k].1.getD 2 0 ∧ hs[k].1.getD 2 0 ≤ 1000))
    (hx : -10000000 ≤ x ∧ x ≤ 10000000) (hy : -10000000 ≤ y ∧ y ≤ 10000000) (hz : -10000000 ≤ z ∧ z ≤ 10000000) :
    Calls Try.prog 102 #[.slice (some ⟨g, 0, none⟩) hs.length c, .agg #[.int .i64 x, .int .i64 y, .int .i64 z]] w (Quiet w (.bool (inA hs [x, y, z]))) := by
  have HV := Lib.hid hv
  have HD := Lib.hid (fun (k : Nat) (hk : k < hs.length) (W : World) => i_dot3 _ _ _ x y z W (hd k hk).1 (hd k hk).2.1 (hd k hk).2.2 hx hy hz)
  have KX := Lib.hid (Bk.new w #[.int .i64 x, .int .i64 y, .int .i64 z] 57)
  have B0 := Lib.hid (below1 w (.cells #[.int .i64 x, .int .i64 y, .int .i64 z] 57))
  clear hv hd hx hy hz
  go_enter Try.func102, Try.ntmps102
  go_wp2
  go_loopw [9] (fun i wr => ∃ k : Nat, k ≤ hs.length ∧ i = .int .i64 k ∧ inA (hs.take k) [x, y, z] = true ∧ Below (w.heap.size + 1) (w.alloc (.cells #[.int .i64 x, .int .i64 y, .int .i64 z] 57)) wr) (fun i _ => hs.length - (RowKit.intOf i).toNat)
  case atStart => exact ⟨0, Nat.zero_le _, rfl, rfl, Below.refl _ _⟩
  case round =>
    obtain ⟨k, hk, rfl, ht, hbr⟩ := hrel
    have HT := Lib.hid ht
    have HS := Lib.hid (show w.heap.size + 1 ≤ wr.heap.size by have := hbr.size; simpa using this)
    have HA := Lib.hid (B0.out.trans (hbr.mono (by omega)))
    have HX := Lib.hid (KX.out.since hbr (by omega))
    have HBr := Lib.hid hbr
    clear ht hbr
    by_cases hlt : k < hs.length
    · obtain ⟨b, e, _, _, hb2, _, ⟨q0, q1, q2, q3⟩, _⟩ := HV.out.at k hlt rfl
      simp only [Option.some.injEq, Addr.mk.injEq, and_true] at e
      subst e
      rw [← HA.out.cell (p := ⟨g, k * 4, none⟩) hb2] at q0
      rw [← HA.out.cell (p := ⟨g, k * 4 + 1, none⟩) hb2] at q1
      rw [← HA.out.cell (p := ⟨g, k * 4 + 2, none⟩) hb2] at q2
      rw [← HA.out.cell (p := ⟨g, k * 4 + 3, none⟩) hb2] at q3
      have CD := Lib.hid (HD.out k hlt)
      obtain ⟨p, hp⟩ : ∃ p : Int, hs[k].1.getD 0 0 * x + hs[k].1.getD 1 0 * y + hs[k].1.getD 2 0 * z = p := ⟨_, rfl⟩
      have HP := Lib.hid (show dot3 hs[k].1 [x, y, z] = p from hp)
      rw [hp] at CD
      have HN := Lib.hid (below1 wr (.cells #[.int .i64 (hs[k].1.getD 0 0), .int .i64 (hs[k].1.getD 1 0), .int .i64 (hs[k].1.getD 2 0), .int .i64 hs[k].2] 59))
      have KH := Lib.hid (Bk.new wr #[.int .i64 (hs[k].1.getD 0 0), .int .i64 (hs[k].1.getD 1 0), .int .i64 (hs[k].1.getD 2 0), .int .i64 hs[k].2] 59)
      generalize hs[k].1.getD 0 0 = a at *
      generalize hs[k].1.getD 1 0 = b at *
      generalize hs[k].1.getD 2 0 = d at *
      generalize hbb : hs[k].2 = B at *
      clear hp
      have HB1 := Lib.hid (HBr.out.trans ((below1 wr (.cells #[.int .i64 a, .int .i64 b, .int .i64 d, .int .i64 B] 59)).mono HS.out))
      obtain ⟨m1, m2, m3, m4⟩ := KH.out.c4
      have KX2 := HX.out.alloc (.cells #[.int .i64 a, .int .i64 b, .int .i64 d, .int .i64 B] 59)
      obtain ⟨m5, m6, m7⟩ := KX2.c3
      have n1 := KH.out.lt
      have n2 := KX2.lt
      clear KX2
      go_wp2_with fail
      go_region_held3 (fun w' => w'.cell? ⟨wr.heap.size, 0, none⟩ = some (.int .i64 a) ∧ w'.cell? ⟨wr.heap.size, 1, none⟩ = some (.int .i64 b) ∧ w'.cell? ⟨wr.heap.size, 2, none⟩ = some (.int .i64 d) ∧ w'.cell? ⟨wr.heap.size, 3, none⟩ = some (.int .i64 B) ∧ w'.cell? ⟨w.heap.size, 0, none⟩ = some (.int .i64 x) ∧ w'.cell? ⟨w.heap.size, 1, none⟩ = some (.int .i64 y) ∧ w'.cell? ⟨w.heap.size, 2, none⟩ = some (.int .i64 z) ∧ Below (wr.alloc (.cells #[.int .i64 a, .int .i64 b, .int .i64 d, .int .i64 B] 59)).heap.size (wr.alloc (.cells #[.int .i64 a, .int .i64 b, .int .i64 d, .int .i64 B] 59)) w')
        (first
          | with_reducible exact keep7D m1 m2 m3 m4 m5 m6 m7 (Below.refl _ _)
          | (go_split_ands; with_reducible exact keep7E n1 n1 n1 n1 n2 n2 n2 (by assumption) (by assumption) (by assumption) (by assumption) (by assumption) (by assumption) (by assumption) (by assumption) (by assumption))
          | go_keep)
        (first | (go_at_call 135; refine (CD.out _).mono ?_; rintro e w2 ⟨rfl, hb1⟩))
      rename_i hH
      have HB2 := Lib.hid (HB1.out.trans (hH.2.2.2.2.2.2.2.mono (by have := HS.out; simp; omega)))
      clear hH m1 m2 m3 m4 m5 m6 m7 q0 q1 q2 q3
      have HA1 := Lib.hid (B0.out.trans (HB2.out.mono (by omega)))
      by_cases hd : p ≤ B
      · have hd2 : ¬ B < p := by omega
        go_wp2
        exact ⟨⟨k + 1, by omega, by go_num, inA_take hlt HT.out (by rw [HP.out, hbb]; exact hd), HB2.out⟩, by simp [RowKit.intOf]; omega⟩
      · have hd2 : B < p := by omega
        go_wp2
        go_ret
        exact ⟨ret_bool (inA_not hlt (by rw [HP.out, hbb]; omega)).symm, HA1.out⟩
    · obtain rfl : k = hs.length := by omega
      have E2 := Lib.hid (show inA hs [x, y, z] = true by have h := HT.out; rw [List.take_length] at h; exact h)
      go_wp2
      go_ret
      exact ⟨ret_bool E2.out.symm, HA.out⟩
end Go.Proofs.Ytckpifcdlmfabaa
/- The program's pointsOf: the points of a region, three numbers each. -/
namespace Go.Proofs.Ytckpifcdlmfabaa
open Go Go.RowKit Go.Lib Go.Shelf

attribute [local go_sem] Oper.semAt_some

/-- The points of a region, three numbers each. -/
def triR (n : Int) (hs : List Hf) : List (List Int) := (trip n).filter (inA hs)
/-- What pointsOf's function reads: the region's box, the box of the halves, the halves. -/
def PoH (B G g c : Nat) (n : Int) (U : Value) (hs : List Hf) (W : World) : Prop :=
  Bk W B #[.int .i64 n, U] 30 ∧ Bk W G #[.slice (some ⟨g, 0, none⟩) hs.length c] 60 ∧ OwF 59 g (g + 1) W (.slice (some ⟨g, 0, none⟩) hs.length c) hs
theorem OwF.tight {T : TypeId} {lo hi : Nat} {w : World} {g n c : Nat} {hs : List Hf} (h : OwF T lo hi w (.slice (some ⟨g, 0, none⟩) n c) hs) : OwF T g (g + 1) w (.slice (some ⟨g, 0, none⟩) n c) hs ∧ lo ≤ g ∧ g < w.heap.size := by
  obtain ⟨⟨h1, h2⟩, h3⟩ := h
  rcases h2 with ⟨e, _⟩ | ⟨g', cap, cur, e, hg, hh, hr⟩
  · cases e
  · simp only [Value.slice.injEq, Option.some.injEq, Addr.mk.injEq, and_true] at e
    obtain ⟨rfl, e2, rfl⟩ := e
    exact ⟨⟨⟨h1, .inr ⟨g, c, cur, by rw [e2], Nat.le_refl _, hh, hr⟩⟩, fun b hb => by simp [Value.ownBlock] at hb; omega⟩, hg, lt_of_heap hh⟩

theorem half_lens3 {n : Int} {hs : List Hf} (h : regOk n hs = true) (k : Nat) (hk : k < hs.length) : 1 ≤ hs[k].1.length ∧ hs[k].1.length ≤ 3 := by
  have := halfOk_t ((regOk_t h).2.2.2 k hk)
  omega

theorem edge_le (n : Int) (k : Nat) : edge n k ≤ 6 := by unfold edge; split <;> omega
theorem PoH.fol {B G g c : Nat} {n : Int} {U : Value} {hs : List Hf} {W W' : World} {T : Bs} (h : PoH B G g c n U hs W) (hf : Fol T W W') (hT : ¬ T B ∧ ¬ T G ∧ ¬ T g) : PoH B G g c n U hs W' := by
  obtain ⟨h1, h2, h3⟩ := h
  refine ⟨hf.bk h1 hT.1, hf.bk h2 hT.2.1, ?_, h3.2⟩
  obtain ⟨⟨k1, k2⟩, _⟩ := h3
  refine ⟨k1, ?_⟩
  rcases k2 with k2 | ⟨g', cap, cur, e, hg, hh, hr⟩
  · exact .inl k2
  · have e2 := e
    simp only [Value.slice.injEq, Option.some.injEq, Addr.mk.injEq, and_true] at e2
    obtain ⟨rfl, _⟩ := e2
    exact .inr ⟨g, cap, cur, e, hg, (hf.block g (lt_of_heap hh) hT.2.2).trans hh, hr⟩
theorem filter_snoc {α : Type} (p : α → Bool) (l : List α) (x : α) : (l ++ [x]).filter p = l.filter p ++ (if p x = true then [x] else []) := by
  rw [List.filter_append]
  congr 1
  by_cases h : p x = true
  · simp [h]
  · simp [h]
theorem filter_prefix {α : Type} (p : α → Bool) {l m : List α} (h : l <+: m) : l.filter p <+: m.filter p := by
  obtain ⟨s, rfl⟩ := h
  exact ⟨s.filter p, by rw [List.filter_append]⟩

theorem leave_fol {T T' : Bs} {W w1 W2 : World} (o : Obj) (hb : Below W.heap.size W w1) (hg : Grew T T' w1) (hf : Fol T w1 W2) : Grew T T' W ∧ Fol T W (W2.putObj w1.heap.size o) := by
  have hs := hb.size
  refine ⟨fun k hk => (hg k hk).imp id (fun e => by omega), ?_, fun k hk ht => (World.putObj_heap_other (by omega)).trans ((hf.block k (by omega) ht).trans (hb.block k hk))⟩
  exact ((hb.mono (Nat.zero_le _)).trans hf.below).trans (putObj_fol W2 w1.heap.size o (T := fun k => k = w1.heap.size) (.inl rfl)).below
theorem half_small {n : Int} {hs : List Hf} (h : regOk n hs = true) (k : Nat) (hk : k < hs.length) : (-1000 ≤ hs[k].1.getD 0 0 ∧ hs[k].1.getD 0 0 ≤ 1000) ∧ (-1000 ≤ hs[k].1.getD 1 0 ∧ hs[k].1.getD 1 0 ≤ 1000) ∧ (-1000 ≤ hs[k].1.getD 2 0 ∧ hs[k].1.getD 2 0 ≤ 1000) := by
  have hb := (halfOk_t ((regOk_t h).2.2.2 k hk)).2.2.2.1
  have key : ∀ i : Nat, -1000 ≤ hs[k].1.getD i 0 ∧ hs[k].1.getD i 0 ≤ 1000 := fun i => by
    rw [List.getD_eq_getElem?_getD]
    by_cases hi : i < hs[k].1.length
    · rw [List.getElem?_eq_getElem hi]
      have := hb i hi
      simp only [Option.getD_some]; omega
    · rw [List.getElem?_eq_none (by omega)]
      simp
  exact ⟨key 0, key 1, key 2⟩

/-- What holds at the body's start: the box of the point is there. -/
def PtMid (J : List (List Int) → Bs → World → Prop) (f : List Int → Bool) (act : List Int → Nat → Act) (x : List Int) (a' : Act) (pre : List (List Int)) (T' : Bs) (W' : World) : Prop :=
  ∃ (T : Bs) (X : Nat), T' = (fun k => T k ∨ k = X) ∧ ¬ T X ∧ J (pre.filter f) T W' ∧ Bk W' X #[.int .i64 (x.getD 0 0), .int .i64 (x.getD 1 0), .int .i64 (x.getD 2 0)] 57 ∧ a' = act x X
theorem ptmid_sep {J : List (List Int) → Bs → World → Prop} (h : Sep J) (f : List Int → Bool) (act : List Int → Nat → Act) (x : List Int) (a' : Act) : Sep (PtMid J f act x a') := by
  refine ⟨fun s T w hj k hk => ?_, fun s T w w' hj hb hk => ?_⟩
  · obtain ⟨T0, X, rfl, h1, h2, h3, _⟩ := hj
    rcases hk with hk | rfl
    · exact h.lt _ _ _ h2 k hk
    · exact h3.lt
  · obtain ⟨T0, X, rfl, h1, h2, h3, h4⟩ := hj
    exact ⟨T0, X, rfl, h1, h.keep _ _ _ _ h2 hb (fun k e => hk k (.inl e)), (hk X (.inr rfl)).trans h3, h4⟩
theorem sep_map {α β : Type} {J : α → Bs → World → Prop} (h : Sep J) (f : β → α) : Sep (fun s => J (f s)) := ⟨fun s => h.lt (f s), fun s => h.keep (f s)⟩
theorem sep_and {α : Type} {J : α → Bs → World → Prop} (h : Sep J) (P : α → Prop) : Sep (fun s T w => P s ∧ J s T w) := ⟨fun s T w e => h.lt s T w e.2, fun s T w w' e hb hk => ⟨e.1, h.keep s T w w' e.2 hb hk⟩⟩

end Go.Proofs.Ytckpifcdlmfabaa
/- Plain facts: three numbers each are the points of the region. -/
namespace Go.Proofs.Ytckpifcdlmfabaa
open Go Go.RowKit Go.Lib

theorem dot_three {h : List Int} {x y z : Int} {n : Nat} (hl : h.length = n) (h1 : 1 ≤ n) (h3 : n ≤ 3) : dotL h ([x, y, z].take n) = dot3 h [x, y, z] := by
  subst hl
  match h, h1, h3 with
  | [a], _, _ => simp [dotL, dot3]
  | [a, b], _, _ => simp [dotL, dot3]
  | [a, b, c], _, _ => simp [dotL, dot3]; omega
theorem has_in {n : Nat} {hs : List Hf} (hr : regOk n hs = true) {t : List Int} (ht : t ∈ trip n) : hasL hs (t.take n) = inA hs t := by
  obtain ⟨x, y, z, rfl, _⟩ := trip_mem ht
  have h1 : 1 ≤ n := by have := (regOk_t hr).1; omega
  have h3 : n ≤ 3 := by have := (regOk_t hr).2.1; omega
  unfold hasL inA
  rw [Bool.eq_iff_iff, List.all_eq_true, List.all_eq_true]
  refine forall_congr' fun h => forall_congr' fun hm => ?_
  obtain ⟨i, hi, rfl⟩ := List.mem_iff_getElem.1 hm
  have hl := (halfOk_t ((regOk_t hr).2.2.2 i hi)).2.2.1
  rw [dot_three (by omega) h1 h3]
theorem tri_pts {n : Nat} {hs : List Hf} (hr : regOk n hs = true) : (triR n hs).map (fun t => t.take n) = ptsL n hs := by
  have h1 : 1 ≤ n := by have := (regOk_t hr).1; omega
  have h3 : n ≤ 3 := by have := (regOk_t hr).2.1; omega
  unfold triR ptsL
  rw [show ((n : Int)).toNat = n by omega, ← trip_box h1 h3, List.filter_map]
  congr 1
  refine List.filter_congr fun t ht => ?_
  exact (has_in hr ht).symm
theorem tri_len {n : Nat} {hs : List Hf} (hr : regOk n hs = true) : (triR n hs).length = (ptsL n hs).length := by rw [← tri_pts hr, List.length_map]
theorem tripL_len (A B C : List Int) : (tripL A B C).length = A.length * (B.length * C.length) := by
  have key : ∀ x, (B.flatMap fun y => C.map fun z => [x, y, z]).length = B.length * C.length := fun x => by
    induction B with
    | nil => simp
    | cons y B ih2 => rw [List.flatMap_cons, List.length_append, ih2, List.length_cons, List.length_map, Nat.succ_mul, Nat.add_comm]
  unfold tripL
  induction A with
  | nil => simp
  | cons x A ih => rw [List.flatMap_cons, List.length_append, ih, key, List.length_cons, Nat.succ_mul, Nat.add_comm]
theorem trip_len (n : Int) : (trip n).length ≤ 2197 := by
  unfold trip
  rw [tripL_len, axis_len, axis_len, axis_len]
  have h0 := edge_le n 0
  have h1 := edge_le n 1
  have h2 := edge_le n 2
  have a : (2 * edge n 1 + 1) * (2 * edge n 2 + 1) ≤ 13 * 13 := Nat.mul_le_mul (by omega) (by omega)
  have b : (2 * edge n 0 + 1) * ((2 * edge n 1 + 1) * (2 * edge n 2 + 1)) ≤ 13 * (13 * 13) := Nat.mul_le_mul (by omega) a
  omega
theorem tri_len_le (n : Int) (hs : List Hf) : (triR n hs).length ≤ 2197 := Nat.le_trans (List.length_filter_le ..) (trip_len n)
theorem pre_len {α : Type} {l m : List α} {x : α} (h : l ++ [x] <+: m) : l.length < m.length := by
  have := h.length_le
  simp at this; omega
theorem countR_f {n : Int} {hs : List Hf} (h : regOk n hs = false) : countR n hs = -1 := by unfold countR; rw [h]; rfl
theorem countR_t {n : Nat} {hs : List Hf} (h : regOk n hs = true) : countR n hs = (triR n hs).length := by unfold countR; rw [if_pos h, tri_len h]
end Go.Proofs.Ytckpifcdlmfabaa
/- The program's HasRational. -/
namespace Go.Proofs.Ytckpifcdlmfabaa
open Go Go.RowKit Go.Lib

/-- The halves with their bounds times d. -/
def timesH (d : Int) (h : Hf) : Hf := (h.1, h.2 * d)
def timedH (hs : List Hf) (d : Int) (k : Nat) : List Hf := (hs.take k).map (timesH d) ++ hs.drop k
theorem timedH_len (hs : List Hf) (d : Int) (k : Nat) : (timedH hs d k).length = hs.length := by
  unfold timedH
  rw [List.length_append, List.length_map, List.length_take, List.length_drop]; omega
theorem timedH_zero (hs : List Hf) (d : Int) : timedH hs d 0 = hs := by simp [timedH]
theorem timedH_all (hs : List Hf) (d : Int) : timedH hs d hs.length = hs.map (timesH d) := by simp [timedH]
theorem timedH_at {hs : List Hf} {d : Int} {k : Nat} (h : k < hs.length) : (timedH hs d k)[k]'(by rw [timedH_len]; exact h) = hs[k] := by
  have h1 : (timedH hs d k)[k]? = some hs[k] := by
    unfold timedH
    rw [List.getElem?_append_right (by rw [List.length_map, List.length_take]; omega), List.length_map, List.length_take, Nat.min_eq_left (by omega), Nat.sub_self, List.getElem?_drop]
    simp [h]
  rw [List.getElem?_eq_getElem (by rw [timedH_len]; exact h)] at h1
  exact Option.some.inj h1
theorem timedH_step {hs : List Hf} {d : Int} {k : Nat} (h : k < hs.length) : (timedH hs d k).set k (timesH d hs[k]) = timedH hs d (k + 1) := by
  unfold timedH
  rw [List.set_append_right _ _ (by rw [List.length_map, List.length_take]; omega), List.length_map, List.length_take, Nat.min_eq_left (by omega), Nat.sub_self, List.drop_eq_getElem_cons h, List.set_cons_zero, List.take_succ_eq_append_getElem h, List.map_append, List.append_assoc]
  rfl
theorem timed_in {n : Int} {hs : List Hf} {p : Hf} {x y z : Int} (h : askQ n hs p = true) (hp : p.1 = [x, y, z].take p.1.length) : inA (hs.map (timesH p.2)) [x, y, z] = hasA hs p := by
  have key : ∀ k (hk : k < hs.length), dot3 hs[k].1 [x, y, z] = dotL hs[k].1 p.1 := fun k hk => by
    obtain ⟨d1, d2, d3, _⟩ := half_rat h k hk
    rw [hp]
    exact (dot_three (n := p.1.length) d1 (by omega) (by omega)).symm
  unfold inA hasA
  rw [List.all_map]
  refine Bool.eq_iff_iff.2 ?_
  simp only [List.all_eq_true, Function.comp_apply, decide_eq_true_eq]
  constructor
  · intro H q hq
    obtain ⟨k, hk, rfl⟩ := List.mem_iff_getElem.1 hq
    have := H _ hq
    rw [← key k hk]; exact this
  · intro H q hq
    obtain ⟨k, hk, rfl⟩ := List.mem_iff_getElem.1 hq
    have := H _ hq
    unfold timesH
    rw [key k hk]; exact this
theorem timed_bd {n : Int} {hs : List Hf} {d : Int} (h : regOk n hs = true) (k : Nat) (hk : k < (hs.map (timesH d)).length) : (-1000 ≤ (hs.map (timesH d))[k].1.getD 0 0 ∧ (hs.map (timesH d))[k].1.getD 0 0 ≤ 1000) ∧ (-1000 ≤ (hs.map (timesH d))[k].1.getD 1 0 ∧ (hs.map (timesH d))[k].1.getD 1 0 ≤ 1000) ∧ (-1000 ≤ (hs.map (timesH d))[k].1.getD 2 0 ∧ (hs.map (timesH d))[k].1.getD 2 0 ≤ 1000) := by
  have hk' : k < hs.length := by simpa using hk
  have e : (hs.map (timesH d))[k].1 = hs[k].1 := by simp [timesH]
  rw [e]
  have hb := (halfOk_t ((regOk_t h).2.2.2 k hk')).2.2.2.1
  have key : ∀ i : Nat, -1000 ≤ hs[k].1.getD i 0 ∧ hs[k].1.getD i 0 ≤ 1000 := fun i => by
    rw [List.getD_eq_getElem?_getD]
    by_cases hi : i < hs[k].1.length
    · rw [List.getElem?_eq_getElem hi]
      have := hb i hi
      simp only [Option.getD_some]; omega
    · rw [List.getElem?_eq_none (by omega)]
      simp
  exact ⟨key 0, key 1, key 2⟩

/-- What HasRational's loop keeps: the point's box, the halves of fixed length. -/
def HqI (w w3 : World) (x : Value) (p : Hf) (V : Value) (hs : List Hf) (wr : World) : Prop :=
  Bk wr (w.heap.size + 1) #[x, .int .i64 p.2] 63 ∧ OwF 59 (w.heap.size + 2) w3.heap.size wr V hs ∧ Below w.heap.size w wr ∧ w3.heap.size ≤ wr.heap.size

theorem HqI.drewn {w w3 : World} {x : Value} {p : Hf} {V : Value} {hs : List Hf} {wr : World} (h : HqI w w3 x p V hs wr) : HqI w w3 x p V hs wr.drew := ⟨h.1, h.2.1, h.2.2.1.drew, h.2.2.2⟩

set_option maxRecDepth 100000 in
set_option maxHeartbeats 3200000 in
theorem i_hasq (r : Rgn) (p : Hf) (v u : Value) (w : World) (hv : Rg w v r) (hu : Hv w u p) :
    Calls Try.prog 52 #[v, u] w (Quiet w (.bool (hasQ r.1 r.2 p))) := by
  obtain ⟨n, hs'⟩ := r
  have HR := Lib.hid hv
  have HP := Lib.hid hu
  obtain ⟨x, rfl, hx⟩ := hv
  obtain ⟨y, rfl, hy⟩ := hu
  simp only at hx ⊢
  have HY := Lib.hid hy
  obtain ⟨xa, xc, rfl, xm⟩ := hx.shape
  obtain ⟨ya, yc, rfl, ym, _⟩ := hy.shape
  rw [intVals_len] at ym HY HP ⊢
  unfold maxLen at xm ym
  have B0 := Lib.hid (below2 w (.cells #[.int .i64 n, .slice xa hs'.length xc] 30) (.cells #[.slice ya p.1.length yc, .int .i64 p.2] 63))
  have K := Lib.hid (Bk.pair w #[.int .i64 n, .slice xa hs'.length xc] #[.slice ya p.1.length yc, .int .i64 p.2] 30 63)
  clear hx hy
  by_cases c1 : regOk n hs' = true
  case neg =>
    have C1 := Lib.hid (bool_f c1)
    have E := Lib.hid (hasQ_f (askQ_f1 (p := p) (bool_f c1)))
    clear c1
    go_enter Try.func52, Try.ntmps52
    go_wp2_with fail
    refine (i_isreg (n, hs') _ _ (HR.out.below B0.out)).mono ?_
    rintro e w1 ⟨rfl, hb⟩
    rw [C1.out]
    have B1 := Lib.hid (B0.out.trans (hb.mono B0.out.size))
    clear hb
    go_wp2_with fail
    go_ret
    exact ⟨ret_bool E.out.symm, B1.out⟩
  have C1 := Lib.hid c1
  by_cases c2 : fineQ p = true
  case neg =>
    have C2 := Lib.hid (bool_f c2)
    have E := Lib.hid (hasQ_f (askQ_f2 (n := n) (hs := hs') (bool_f c2)))
    clear c1 c2
    go_enter Try.func52, Try.ntmps52
    go_wp2_with fail
    refine (i_isreg (n, hs') _ _ (HR.out.below B0.out)).mono ?_
    rintro e w1 ⟨rfl, hb⟩
    rw [C1.out]
    have B1 := Lib.hid (B0.out.trans (hb.mono B0.out.size))
    obtain ⟨⟨n0, n1⟩, -⟩ := (K.out.2.below hb).two
    clear hb
    go_wp2_with fail
    refine (i_within p _ _ (HP.out.below B1.out)).mono ?_
    rintro e w2 ⟨rfl, hb⟩
    rw [C2.out]
    have B2 := Lib.hid (B1.out.trans (hb.mono B1.out.size))
    clear hb n0 n1
    go_wp2_with fail
    go_ret
    exact ⟨ret_bool E.out.symm, B2.out⟩
  have C2 := Lib.hid c2
  by_cases c3 : (p.1.length : Int) = n
  case neg =>
    have E := Lib.hid (hasQ_f (askQ_f3 (hs := hs') c3))
    have hne : ((p.1.length : Int) != n) = true := by rw [bne_iff_ne]; exact c3
    clear c1 c2 c3
    go_enter Try.func52, Try.ntmps52
    go_wp2_with fail
    refine (i_isreg (n, hs') _ _ (HR.out.below B0.out)).mono ?_
    rintro e w1 ⟨rfl, hb⟩
    rw [C1.out]
    have B1 := Lib.hid (B0.out.trans (hb.mono B0.out.size))
    have K1 := Lib.hid (And.intro (K.out.1.below hb) (K.out.2.below hb))
    obtain ⟨⟨n0, n1⟩, -⟩ := K1.out.2.two
    clear hb
    go_wp2_with fail
    refine (i_within p _ _ (HP.out.below B1.out)).mono ?_
    rintro e w2 ⟨rfl, hb⟩
    rw [C2.out]
    have B2 := Lib.hid (B1.out.trans (hb.mono B1.out.size))
    clear n0 n1
    obtain ⟨⟨m0, m1⟩, -⟩ := (K1.out.1.below hb).two
    obtain ⟨⟨n0, n1⟩, -⟩ := (K1.out.2.below hb).two
    clear hb
    go_wp2_with fail
    go_ret
    exact ⟨ret_bool E.out.symm, B2.out⟩
  have hne : ((p.1.length : Int) != n) = false := by rw [bne_eq_false_iff_eq]; exact c3
  have ASK := Lib.hid (askQ_mk c1 c2 c3)
  have E := Lib.hid (hasQ_t ASK.out)
  have HD := Lib.hid (half_rat ASK.out)
  have R8 := Lib.hid (regOk_t c1)
  have FQ := Lib.hid (fineQ_t c2)
  obtain ⟨x0, y0, z0, p1, p2, _, _, p5⟩ := pad3 p.1 (by have := R8.out.1; omega) (by have := R8.out.2.1; omega)
  have P1 := Lib.hid p1
  have P5 := Lib.hid (p5 10000000 (by omega) FQ.out.2.2)
  have TI := Lib.hid (E.out.trans (timed_in ASK.out p2).symm)
  have hl3 : 1 ≤ p.1.length ∧ p.1.length ≤ 3 := ⟨by have := R8.out.1; omega, by have := R8.out.2.1; omega⟩
  clear c1 c2 c3 p1 p2 p5
  go_enter Try.func52, Try.ntmps52
  go_wp2_with fail
  refine (i_isreg (n, hs') _ _ (HR.out.below B0.out)).mono ?_
  rintro e w1 ⟨rfl, hb⟩
  rw [C1.out]
  have B1 := Lib.hid (B0.out.trans (hb.mono B0.out.size))
  have K1 := Lib.hid (And.intro (K.out.1.below hb) (K.out.2.below hb))
  obtain ⟨⟨n0, n1⟩, -⟩ := K1.out.2.two
  clear hb
  go_wp2_with fail
  refine (i_within p _ _ (HP.out.below B1.out)).mono ?_
  rintro e w2 ⟨rfl, hb⟩
  rw [C2.out]
  have B2 := Lib.hid (B1.out.trans (hb.mono B1.out.size))
  have K2 := Lib.hid (And.intro (K1.out.1.below hb) (K1.out.2.below hb))
  clear n0 n1 hb
  obtain ⟨⟨m0, m1⟩, -⟩ := K2.out.1.two
  obtain ⟨⟨n0, n1⟩, -⟩ := K2.out.2.two
  go_wp2_with fail
  refine (i_fixed (n, hs') _ _ (HR.out.below B2.out) (fun k hk => by have h := halfOk_t (R8.out.2.2.2 k hk); have h1 := HD.out k hk; simp only at h h1 ⊢; omega) R8.out.2.2.1).mono ?_
  rintro e w3 ⟨⟨g, zc, rfl, ho⟩, hb⟩
  have Z1 := Lib.hid (show w.heap.size + 2 ≤ w2.heap.size from K2.out.2.lt)
  have HI := Lib.hid (show HqI w w3 (.slice ya p.1.length yc) p (.slice (some ⟨g, 0, none⟩) hs'.length zc) (timedH hs' p.2 0) w3 from ⟨K2.out.2.below hb, by rw [timedH_zero]; exact ho.mono Z1.out (Nat.le_refl _), B2.out.trans (hb.mono B2.out.size), Nat.le_refl _⟩)
  have Z3 := Lib.hid (show w.heap.size + 2 ≤ w3.heap.size from Nat.le_trans Z1.out hb.size)
  clear ho hb m0 m1 n0 n1
  go_wp2
  go_loopw [27] (fun i wr => ∃ k : Nat, k ≤ hs'.length ∧ i = .int .i64 k ∧ HqI w w3 (.slice ya p.1.length yc) p (.slice (some ⟨g, 0, none⟩) hs'.length zc) (timedH hs' p.2 k) wr) (fun i _ => hs'.length - (RowKit.intOf i).toNat)
  case atStart => exact ⟨0, Nat.zero_le _, rfl, HI.out⟩
  case round =>
    obtain ⟨k, hk, rfl, hci⟩ := hrel
    have HC := Lib.hid hci
    clear hci
    obtain ⟨⟨n0, n1⟩, -⟩ := HC.out.1.two
    by_cases hlt : k < hs'.length
    · obtain ⟨b', e1, q1, q2, q3, q4, ⟨-, -, -, d3⟩, hfr⟩ := HC.out.2.1.at k (by rw [timedH_len]; exact hlt) rfl
      rw [timedH_at hlt] at d3
      rw [timedH_len] at q4
      simp only [Option.some.injEq, Addr.mk.injEq, and_true] at e1
      subst e1
      have HG := Lib.hid (And.intro q1 (And.intro q2 q3))
      have HFr := hfr (k * 4 + 3)
      have HM := Lib.hid (timedH_step (d := p.2) hlt)
      have i1 : (0 : Int) ≤ (k : Int) := by omega
      have i2 : (k : Int) < (hs'.length : Int) := by omega
      obtain ⟨-, -, -, -, -, d6, d7⟩ := HD.out k hlt
      have AT := Lib.hid (timedH_at (d := p.2) hlt)
      obtain ⟨bk, hbk⟩ : ∃ q : Int, hs'[k].2 = q := ⟨_, rfl⟩
      have HBK := Lib.hid hbk
      rw [hbk] at d3 d6 d7
      have hw : IntKind.i64.wrap (bk * p.2) = bk * p.2 := IntWalk.i64_in _ (by omega)
      clear hbk hfr q1 q2
      go_wp2
      go_region
      go_wp2
      refine ⟨⟨k + 1, by omega, by go_num, ?_⟩, by simp [RowKit.intOf]; omega⟩
      refine HqI.drewn ?_
      have h5 := HC.out.2.1.bound k (by rw [timedH_len]; exact hlt) (bk * p.2)
      rw [AT.out, show (hs'[k].1, bk * p.2) = timesH p.2 hs'[k] by unfold timesH; rw [HBK.out], HM.out] at h5
      have hg := HG.out
      have hz := HC.out.2.2.2
      exact ⟨HC.out.1.other (by show g ≠ _; omega) _, h5, HC.out.2.2.1.setCell (by show _ ≤ g; omega) _, by simp [World.setCell]; omega⟩
    · obtain rfl : k = hs'.length := by omega
      have HF := Lib.hid (show OwF 59 (w.heap.size + 2) w3.heap.size wr (.slice (some ⟨g, 0, none⟩) hs'.length zc) (hs'.map (timesH p.2)) by have h := HC.out.2.1; rw [timedH_all] at h; exact h)
      have TB := Lib.hid (timed_bd (d := p.2) (askQ_t ASK.out).1)
      have hml : (hs'.map (timesH p.2)).length = hs'.length := List.length_map _
      have B5 := Lib.hid HC.out.2.2.1
      go_wp2_with fail
      refine (i_num p.1 _ _ _ P1.out hl3.1 hl3.2 _ _ (HY.out.below B5.out)).mono ?_
      rintro e w5 ⟨rfl, hb⟩
      have B6 := Lib.hid (B5.out.trans (hb.mono B5.out.size))
      have HF1 := Lib.hid (HF.out.below hb)
      clear hb n0 n1
      go_wp2_with fail
      rw [← hml]
      refine (i_inall (hs'.map (timesH p.2)) x0 y0 z0 g zc _ _ _ (by have h := HF1.out; rw [← hml] at h; exact h) (by rw [hml]; exact R8.out.2.2.1) TB.out (by have := P5.out; omega) (by have := P5.out; omega) (by have := P5.out; omega)).mono ?_
      rintro e w6 ⟨rfl, hb⟩
      have B7 := Lib.hid (B6.out.trans (hb.mono B6.out.size))
      clear hb
      go_wp2_with fail
      go_ret
      exact ⟨ret_bool TI.out.symm, B7.out⟩
end Go.Proofs.Ytckpifcdlmfabaa
