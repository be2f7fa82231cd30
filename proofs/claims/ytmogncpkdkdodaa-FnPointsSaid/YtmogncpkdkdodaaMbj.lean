/- The program's dot and isInAll. -/
import Derived.Test.YtmogncpkdkdodaaPtB
import Derived.Test.YtmogncpkdkdodaaMbi
namespace Go.Proofs.Ytmogncpkdkdodaa
open Go Go.RowKit Go.Lib

theorem Bk.c3 {w : World} {b : Nat} {x y z : Value} {T : TypeId} (h : Bk w b #[x, y, z] T) : w.cell? ⟨b, 0, none⟩ = some x ∧ w.cell? ⟨b, 1, none⟩ = some y ∧ w.cell? ⟨b, 2, none⟩ = some z := ⟨h.cell 0 rfl, h.cell 1 rfl, h.cell 2 rfl⟩
theorem Bk.c4 {w : World} {b : Nat} {x y z u : Value} {T : TypeId} (h : Bk w b #[x, y, z, u] T) : w.cell? ⟨b, 0, none⟩ = some x ∧ w.cell? ⟨b, 1, none⟩ = some y ∧ w.cell? ⟨b, 2, none⟩ = some z ∧ w.cell? ⟨b, 3, none⟩ = some u := ⟨h.cell 0 rfl, h.cell 1 rfl, h.cell 2 rfl, h.cell 3 rfl⟩
theorem prod1000 {a b : Int} (h1 : -1000 ≤ a ∧ a ≤ 1000) (h2 : -1000 ≤ b ∧ b ≤ 1000) : -1000000 ≤ a * b ∧ a * b ≤ 1000000 := by
  have := mul_bd h1.1 h1.2 h2.1 h2.2
  omega
theorem prodM {a b : Int} (h1 : -1000 ≤ a ∧ a ≤ 1000) (h2 : -10000000 ≤ b ∧ b ≤ 10000000) : -10000000000 ≤ a * b ∧ a * b ≤ 10000000000 := by
  have := mul_bd h1.1 h1.2 h2.1 h2.2
  omega

set_option maxRecDepth 100000 in
set_option maxHeartbeats 800000 in
theorem i_dot3 (a b c x y z : Int) (w : World) (ha : -1000 ≤ a ∧ a ≤ 1000) (hb : -1000 ≤ b ∧ b ≤ 1000) (hc : -1000 ≤ c ∧ c ≤ 1000) (hx : -10000000 ≤ x ∧ x ≤ 10000000) (hy : -10000000 ≤ y ∧ y ≤ 10000000) (hz : -10000000 ≤ z ∧ z ≤ 10000000) :
    Calls Try.prog 55 #[.agg #[.int .i64 a, .int .i64 b, .int .i64 c], .agg #[.int .i64 x, .int .i64 y, .int .i64 z]] w (Quiet w (.int .i64 (a * x + b * y + c * z))) := by
  obtain ⟨p1, p2⟩ := prodM ha hx
  obtain ⟨p3, p4⟩ := prodM hb hy
  obtain ⟨p5, p6⟩ := prodM hc hz
  clear ha hb hc hx hy hz
  go_enter Try.func55, Try.ntmps55
  go_wp2
  refine wp_loop_rounds 4 ?_
  rw [rounds_succ]
  go_wp2
  go_region
  go_wp2
  rw [rounds_succ]
  go_wp2
  go_region
  go_wp2
  rw [rounds_succ]
  go_wp2
  go_region
  go_wp2
  rw [rounds_succ]
  go_wp2
  go_ret
  exact ⟨ret_int (by omega), by first | exact (((below2 w _ _).drew).drew).drew⟩
theorem keep7D {w W : World} {p1 p2 p3 p4 p5 p6 p7 : Addr} {x1 x2 x3 x4 x5 x6 x7 : Value} (h1 : W.cell? p1 = some x1) (h2 : W.cell? p2 = some x2) (h3 : W.cell? p3 = some x3) (h4 : W.cell? p4 = some x4) (h5 : W.cell? p5 = some x5) (h6 : W.cell? p6 = some x6) (h7 : W.cell? p7 = some x7) (hb : Below w.heap.size w W) : W.drew.cell? p1 = some x1 ∧ W.drew.cell? p2 = some x2 ∧ W.drew.cell? p3 = some x3 ∧ W.drew.cell? p4 = some x4 ∧ W.drew.cell? p5 = some x5 ∧ W.drew.cell? p6 = some x6 ∧ W.drew.cell? p7 = some x7 ∧ Below w.heap.size w W.drew :=
  ⟨h1, h2, h3, h4, h5, h6, h7, hb.drew⟩
theorem keep7E {w W w1 : World} {p1 p2 p3 p4 p5 p6 p7 : Addr} {x1 x2 x3 x4 x5 x6 x7 : Value} (l1 : p1.block < w.heap.size) (l2 : p2.block < w.heap.size) (l3 : p3.block < w.heap.size) (l4 : p4.block < w.heap.size) (l5 : p5.block < w.heap.size) (l6 : p6.block < w.heap.size) (l7 : p7.block < w.heap.size) (h1 : W.cell? p1 = some x1) (h2 : W.cell? p2 = some x2) (h3 : W.cell? p3 = some x3) (h4 : W.cell? p4 = some x4) (h5 : W.cell? p5 = some x5) (h6 : W.cell? p6 = some x6) (h7 : W.cell? p7 = some x7) (hb : Below w.heap.size w W) (h : Below W.heap.size W w1) : w1.cell? p1 = some x1 ∧ w1.cell? p2 = some x2 ∧ w1.cell? p3 = some x3 ∧ w1.cell? p4 = some x4 ∧ w1.cell? p5 = some x5 ∧ w1.cell? p6 = some x6 ∧ w1.cell? p7 = some x7 ∧ Below w.heap.size w w1 :=
  ⟨(h.cell (Nat.lt_of_lt_of_le l1 hb.size)).trans h1, (h.cell (Nat.lt_of_lt_of_le l2 hb.size)).trans h2, (h.cell (Nat.lt_of_lt_of_le l3 hb.size)).trans h3, (h.cell (Nat.lt_of_lt_of_le l4 hb.size)).trans h4, (h.cell (Nat.lt_of_lt_of_le l5 hb.size)).trans h5, (h.cell (Nat.lt_of_lt_of_le l6 hb.size)).trans h6, (h.cell (Nat.lt_of_lt_of_le l7 hb.size)).trans h7, hb.trans (h.mono hb.size)⟩

theorem inA_take {hs : List Hf} {t : List Int} {k : Nat} (h : k < hs.length) (h1 : inA (hs.take k) t = true) (h2 : dot3 hs[k].1 t ≤ hs[k].2) : inA (hs.take (k + 1)) t = true := all_take' h h1 (decide_eq_true h2)
theorem inA_not {hs : List Hf} {t : List Int} {k : Nat} (h : k < hs.length) (h2 : ¬ dot3 hs[k].1 t ≤ hs[k].2) : inA hs t = false := all_not' h (decide_eq_false h2)

set_option maxRecDepth 100000 in
set_option maxHeartbeats 1600000 in
theorem i_inall (hs : List Hf) (x y z : Int) (g c lo hi : Nat) (w : World) (hv : OwF 91 lo hi w (.slice (some ⟨g, 0, none⟩) hs.length c) hs) (hl : hs.length ≤ 8)
    (hd : ∀ (k : Nat) (hk : k < hs.length), (-1000 ≤ hs[k].1.getD 0 0 ∧ hs[k].1.getD 0 0 ≤ 1000) ∧ (-1000 ≤ hs[k].1.getD 1 0 ∧ hs[k].1.getD 1 0 ≤ 1000) ∧ (-1000 ≤ hs[k].1.getD 2 0 ∧ hs[k].1.getD 2 0 ≤ 1000))
    (hx : -10000000 ≤ x ∧ x ≤ 10000000) (hy : -10000000 ≤ y ∧ y ≤ 10000000) (hz : -10000000 ≤ z ∧ z ≤ 10000000) :
    Calls Try.prog 80 #[.slice (some ⟨g, 0, none⟩) hs.length c, .agg #[.int .i64 x, .int .i64 y, .int .i64 z]] w (Quiet w (.bool (inA hs [x, y, z]))) := by
  have HV := Lib.hid hv
  have HD := Lib.hid (fun (k : Nat) (hk : k < hs.length) (W : World) => i_dot3 _ _ _ x y z W (hd k hk).1 (hd k hk).2.1 (hd k hk).2.2 hx hy hz)
  have KX := Lib.hid (Bk.new w #[.int .i64 x, .int .i64 y, .int .i64 z] 77)
  have B0 := Lib.hid (below1 w (.cells #[.int .i64 x, .int .i64 y, .int .i64 z] 77))
  clear hv hd hx hy hz
  go_enter Try.func80, Try.ntmps80
  go_wp2
  go_loopw [9] (fun i wr => ∃ k : Nat, k ≤ hs.length ∧ i = .int .i64 k ∧ inA (hs.take k) [x, y, z] = true ∧ Below (w.heap.size + 1) (w.alloc (.cells #[.int .i64 x, .int .i64 y, .int .i64 z] 77)) wr) (fun i _ => hs.length - (RowKit.intOf i).toNat)
  case atStart => exact ⟨0, Nat.zero_le _, rfl, rfl, Below.refl _ _⟩
  case round =>
    obtain ⟨k, hk, rfl, ht, hbr⟩ := hrel
    have HT := Lib.hid ht
    have HS := Lib.hid (show w.heap.size + 1 ≤ wr.heap.size by have := hbr.size; simpa using this)
    have HA := Lib.hid (B0.out.trans (hbr.mono (by omega)))
    have HX := Lib.hid (KX.out.since hbr (by omega))
    have HBr := Lib.hid hbr
    clear ht hbr
    by_cases hlt : k < hs.length
    · obtain ⟨b, e, _, _, hb2, _, ⟨q0, q1, q2, q3⟩, _⟩ := HV.out.at k hlt rfl
      simp only [Option.some.injEq, Addr.mk.injEq, and_true] at e
      subst e
      rw [← HA.out.cell (p := ⟨g, k * 4, none⟩) hb2] at q0
      rw [← HA.out.cell (p := ⟨g, k * 4 + 1, none⟩) hb2] at q1
      rw [← HA.out.cell (p := ⟨g, k * 4 + 2, none⟩) hb2] at q2
      rw [← HA.out.cell (p := ⟨g, k * 4 + 3, none⟩) hb2] at q3
      have CD := Lib.hid (HD.out k hlt)
      obtain ⟨p, hp⟩ : ∃ p : Int, hs[k].1.getD 0 0 * x + hs[k].1.getD 1 0 * y + hs[k].1.getD 2 0 * z = p := ⟨_, rfl⟩
      have HP := Lib.hid (show dot3 hs[k].1 [x, y, z] = p from hp)
      rw [hp] at CD
      have HN := Lib.hid (below1 wr (.cells #[.int .i64 (hs[k].1.getD 0 0), .int .i64 (hs[k].1.getD 1 0), .int .i64 (hs[k].1.getD 2 0), .int .i64 hs[k].2] 91))
      have KH := Lib.hid (Bk.new wr #[.int .i64 (hs[k].1.getD 0 0), .int .i64 (hs[k].1.getD 1 0), .int .i64 (hs[k].1.getD 2 0), .int .i64 hs[k].2] 91)
      generalize hs[k].1.getD 0 0 = a at *
      generalize hs[k].1.getD 1 0 = b at *
      generalize hs[k].1.getD 2 0 = d at *
      generalize hbb : hs[k].2 = B at *
      clear hp
      have HB1 := Lib.hid (HBr.out.trans ((below1 wr (.cells #[.int .i64 a, .int .i64 b, .int .i64 d, .int .i64 B] 91)).mono HS.out))
      obtain ⟨m1, m2, m3, m4⟩ := KH.out.c4
      have KX2 := HX.out.alloc (.cells #[.int .i64 a, .int .i64 b, .int .i64 d, .int .i64 B] 91)
      obtain ⟨m5, m6, m7⟩ := KX2.c3
      have n1 := KH.out.lt
      have n2 := KX2.lt
      clear KX2
      go_wp2_with fail
      go_region_held3 (fun w' => w'.cell? ⟨wr.heap.size, 0, none⟩ = some (.int .i64 a) ∧ w'.cell? ⟨wr.heap.size, 1, none⟩ = some (.int .i64 b) ∧ w'.cell? ⟨wr.heap.size, 2, none⟩ = some (.int .i64 d) ∧ w'.cell? ⟨wr.heap.size, 3, none⟩ = some (.int .i64 B) ∧ w'.cell? ⟨w.heap.size, 0, none⟩ = some (.int .i64 x) ∧ w'.cell? ⟨w.heap.size, 1, none⟩ = some (.int .i64 y) ∧ w'.cell? ⟨w.heap.size, 2, none⟩ = some (.int .i64 z) ∧ Below (wr.alloc (.cells #[.int .i64 a, .int .i64 b, .int .i64 d, .int .i64 B] 91)).heap.size (wr.alloc (.cells #[.int .i64 a, .int .i64 b, .int .i64 d, .int .i64 B] 91)) w')
        (first
          | with_reducible exact keep7D m1 m2 m3 m4 m5 m6 m7 (Below.refl _ _)
          | (go_split_ands; with_reducible exact keep7E n1 n1 n1 n1 n2 n2 n2 (by assumption) (by assumption) (by assumption) (by assumption) (by assumption) (by assumption) (by assumption) (by assumption) (by assumption))
          | go_keep)
        (first | (go_at_call 55; refine (CD.out _).mono ?_; rintro e w2 ⟨rfl, hb1⟩))
      rename_i hH
      have HB2 := Lib.hid (HB1.out.trans (hH.2.2.2.2.2.2.2.mono (by have := HS.out; simp; omega)))
      clear hH m1 m2 m3 m4 m5 m6 m7 q0 q1 q2 q3
      have HA1 := Lib.hid (B0.out.trans (HB2.out.mono (by omega)))
      by_cases hd : p ≤ B
      · have hd2 : ¬ B < p := by omega
        go_wp2
        exact ⟨⟨k + 1, by omega, by go_num, inA_take hlt HT.out (by rw [HP.out, hbb]; exact hd), HB2.out⟩, by simp [RowKit.intOf]; omega⟩
      · have hd2 : B < p := by omega
        go_wp2
        go_ret
        exact ⟨ret_bool (inA_not hlt (by rw [HP.out, hbb]; omega)).symm, HA1.out⟩
    · obtain rfl : k = hs.length := by omega
      have E2 := Lib.hid (show inA hs [x, y, z] = true by have h := HT.out; rw [List.take_length] at h; exact h)
      go_wp2
      go_ret
      exact ⟨ret_bool E2.out.symm, HA.out⟩
end Go.Proofs.Ytmogncpkdkdodaa
/- The program's pointsOf: the points of a region, three numbers each. -/
namespace Go.Proofs.Ytmogncpkdkdodaa
open Go Go.RowKit Go.Lib Go.Shelf

attribute [local go_sem] Oper.semAt_some

/-- The points of a region, three numbers each. -/
def triR (n : Int) (hs : List Hf) : List (List Int) := (trip n).filter (inA hs)
/-- What pointsOf's function reads: the region's box, the box of the halves, the halves. -/
def PoH (B G g c : Nat) (n : Int) (U : Value) (hs : List Hf) (W : World) : Prop :=
  Bk W B #[.int .i64 n, U] 26 ∧ Bk W G #[.slice (some ⟨g, 0, none⟩) hs.length c] 88 ∧ OwF 91 g (g + 1) W (.slice (some ⟨g, 0, none⟩) hs.length c) hs
/-- What pointsOf leaves: the function that yields the points of the region. -/
def SeqPts (w : World) (n : Int) (hs : List Hf) (e : Ending) (w' : World) : Prop :=
  ∃ B G g c U, e = .returned (.func (.func 97) #[] #[.pointer (some ⟨B, 0, none⟩), .pointer (some ⟨G, 0, none⟩)]) ∧ PoH B G g c n U hs w' ∧ Below w.heap.size w w' ∧ w.heap.size ≤ B ∧ w.heap.size ≤ G ∧ w.heap.size ≤ g
theorem OwF.tight {T : TypeId} {lo hi : Nat} {w : World} {g n c : Nat} {hs : List Hf} (h : OwF T lo hi w (.slice (some ⟨g, 0, none⟩) n c) hs) : OwF T g (g + 1) w (.slice (some ⟨g, 0, none⟩) n c) hs ∧ lo ≤ g ∧ g < w.heap.size := by
  obtain ⟨⟨h1, h2⟩, h3⟩ := h
  rcases h2 with ⟨e, _⟩ | ⟨g', cap, cur, e, hg, hh, hr⟩
  · cases e
  · simp only [Value.slice.injEq, Option.some.injEq, Addr.mk.injEq, and_true] at e
    obtain ⟨rfl, e2, rfl⟩ := e
    exact ⟨⟨⟨h1, .inr ⟨g, c, cur, by rw [e2], Nat.le_refl _, hh, hr⟩⟩, fun b hb => by simp [Value.ownBlock] at hb; omega⟩, hg, lt_of_heap hh⟩

theorem half_lens3 {n : Int} {hs : List Hf} (h : regOk n hs = true) (k : Nat) (hk : k < hs.length) : 1 ≤ hs[k].1.length ∧ hs[k].1.length ≤ 3 := by
  have := halfOk_t ((regOk_t h).2.2.2 k hk)
  omega

set_option maxRecDepth 100000 in
set_option maxHeartbeats 800000 in
theorem i_points (r : Rgn) (v : Value) (w : World) (hv : Rg w v r) (hr : regOk r.1 r.2 = true) :
    Calls Try.prog 50 #[v] w (SeqPts w r.1 r.2) := by
  obtain ⟨n, hs'⟩ := r
  have HR := Lib.hid hv
  obtain ⟨u, rfl, hss⟩ := hv
  have HL := Lib.hid (half_lens3 hr)
  have H8 := (regOk_t hr).2.2.1
  simp only at hss H8 ⊢
  have K := Lib.hid (Bk.new w #[.int .i64 n, u] 26)
  have B0 := Lib.hid (below1 w (.cells #[.int .i64 n, u] 26))
  obtain ⟨⟨l0, l1⟩, -⟩ := K.out.two
  clear hss hr
  go_enter Try.func50, Try.ntmps50
  go_wp2_with fail
  refine (i_fixed (n, hs') _ _ (HR.out.below B0.out) HL.out H8).mono ?_
  rintro e w1 ⟨⟨g, c, rfl, ho⟩, hb⟩
  obtain ⟨ho2, hg1, hg2⟩ := ho.tight
  have HO := Lib.hid ho2
  have HB := Lib.hid (B0.out.trans (hb.mono B0.out.size))
  have HK := Lib.hid (K.out.below hb)
  have HG := Lib.hid (show w.heap.size ≤ g by have := B0.out.size; omega)
  clear ho ho2 hb hg1 hg2 l0 l1
  go_wp2_with fail
  go_ret
  refine ⟨w.heap.size, w1.heap.size, g, c, u, rfl, ⟨HK.out.alloc _, Bk.new _ _ _, HO.out.below (below1 _ _)⟩, HB.out.alloc HB.out.size _, Nat.le_refl _, HB.out.size, HG.out⟩

theorem edge_le (n : Int) (k : Nat) : edge n k ≤ 6 := by unfold edge; split <;> omega
theorem PoH.fol {B G g c : Nat} {n : Int} {U : Value} {hs : List Hf} {W W' : World} {T : Bs} (h : PoH B G g c n U hs W) (hf : Fol T W W') (hT : ¬ T B ∧ ¬ T G ∧ ¬ T g) : PoH B G g c n U hs W' := by
  obtain ⟨h1, h2, h3⟩ := h
  refine ⟨hf.bk h1 hT.1, hf.bk h2 hT.2.1, ?_, h3.2⟩
  obtain ⟨⟨k1, k2⟩, _⟩ := h3
  refine ⟨k1, ?_⟩
  rcases k2 with k2 | ⟨g', cap, cur, e, hg, hh, hr⟩
  · exact .inl k2
  · have e2 := e
    simp only [Value.slice.injEq, Option.some.injEq, Addr.mk.injEq, and_true] at e2
    obtain ⟨rfl, _⟩ := e2
    exact .inr ⟨g, cap, cur, e, hg, (hf.block g (lt_of_heap hh) hT.2.2).trans hh, hr⟩
theorem filter_snoc {α : Type} (p : α → Bool) (l : List α) (x : α) : (l ++ [x]).filter p = l.filter p ++ (if p x = true then [x] else []) := by
  rw [List.filter_append]
  congr 1
  by_cases h : p x = true
  · simp [h]
  · simp [h]
theorem filter_prefix {α : Type} (p : α → Bool) {l m : List α} (h : l <+: m) : l.filter p <+: m.filter p := by
  obtain ⟨s, rfl⟩ := h
  exact ⟨s.filter p, by rw [List.filter_append]⟩

theorem leave_fol {T T' : Bs} {W w1 W2 : World} (o : Obj) (hb : Below W.heap.size W w1) (hg : Grew T T' w1) (hf : Fol T w1 W2) : Grew T T' W ∧ Fol T W (W2.putObj w1.heap.size o) := by
  have hs := hb.size
  refine ⟨fun k hk => (hg k hk).imp id (fun e => by omega), ?_, fun k hk ht => (World.putObj_heap_other (by omega)).trans ((hf.block k (by omega) ht).trans (hb.block k hk))⟩
  exact ((hb.mono (Nat.zero_le _)).trans hf.below).trans (putObj_fol W2 w1.heap.size o (T := fun k => k = w1.heap.size) (.inl rfl)).below
theorem half_small {n : Int} {hs : List Hf} (h : regOk n hs = true) (k : Nat) (hk : k < hs.length) : (-1000 ≤ hs[k].1.getD 0 0 ∧ hs[k].1.getD 0 0 ≤ 1000) ∧ (-1000 ≤ hs[k].1.getD 1 0 ∧ hs[k].1.getD 1 0 ≤ 1000) ∧ (-1000 ≤ hs[k].1.getD 2 0 ∧ hs[k].1.getD 2 0 ≤ 1000) := by
  have hb := (halfOk_t ((regOk_t h).2.2.2 k hk)).2.2.2.1
  have key : ∀ i : Nat, -1000 ≤ hs[k].1.getD i 0 ∧ hs[k].1.getD i 0 ≤ 1000 := fun i => by
    rw [List.getD_eq_getElem?_getD]
    by_cases hi : i < hs[k].1.length
    · rw [List.getElem?_eq_getElem hi]
      have := hb i hi
      simp only [Option.getD_some]; omega
    · rw [List.getElem?_eq_none (by omega)]
      simp
  exact ⟨key 0, key 1, key 2⟩

/-- What holds at the body's start: the box of the point is there. -/
def PtMid (J : List (List Int) → Bs → World → Prop) (f : List Int → Bool) (act : List Int → Nat → Act) (x : List Int) (a' : Act) (pre : List (List Int)) (T' : Bs) (W' : World) : Prop :=
  ∃ (T : Bs) (X : Nat), T' = (fun k => T k ∨ k = X) ∧ ¬ T X ∧ J (pre.filter f) T W' ∧ Bk W' X #[.int .i64 (x.getD 0 0), .int .i64 (x.getD 1 0), .int .i64 (x.getD 2 0)] 77 ∧ a' = act x X
theorem ptmid_sep {J : List (List Int) → Bs → World → Prop} (h : Sep J) (f : List Int → Bool) (act : List Int → Nat → Act) (x : List Int) (a' : Act) : Sep (PtMid J f act x a') := by
  refine ⟨fun s T w hj k hk => ?_, fun s T w w' hj hb hk => ?_⟩
  · obtain ⟨T0, X, rfl, h1, h2, h3, _⟩ := hj
    rcases hk with hk | rfl
    · exact h.lt _ _ _ h2 k hk
    · exact h3.lt
  · obtain ⟨T0, X, rfl, h1, h2, h3, h4⟩ := hj
    exact ⟨T0, X, rfl, h1, h.keep _ _ _ _ h2 hb (fun k e => hk k (.inl e)), (hk X (.inr rfl)).trans h3, h4⟩
theorem sep_map {α β : Type} {J : α → Bs → World → Prop} (h : Sep J) (f : β → α) : Sep (fun s => J (f s)) := ⟨fun s => h.lt (f s), fun s => h.keep (f s)⟩
theorem sep_and {α : Type} {J : α → Bs → World → Prop} (h : Sep J) (P : α → Prop) : Sep (fun s T w => P s ∧ J s T w) := ⟨fun s T w e => h.lt s T w e.2, fun s T w w' e hb hk => ⟨e.1, h.keep s T w w' e.2 hb hk⟩⟩

set_option maxRecDepth 100000 in
set_option maxHeartbeats 3200000 in
theorem i_points1 (B G g c : Nat) (n : Int) (U : Value) (hs : List Hf) (hr : regOk n hs = true) :
    SeqT Try.prog 97 #[.pointer (some ⟨B, 0, none⟩), .pointer (some ⟨G, 0, none⟩)] encN (triR n hs) (fun k => k = B ∨ k = G ∨ k = g) (PoH B G g c n U hs) := by
  intro l J Jx T W sJ sJx hH hU hY hJ0
  obtain ⟨m, rfl⟩ : ∃ m : Nat, n = m := ⟨n.toNat, by have := (regOk_t hr).1; omega⟩
  have hm1 : 1 ≤ m := by have := (regOk_t hr).1; omega
  have hm3 : m ≤ 3 := by have := (regOk_t hr).2.1; omega
  have HT := Lib.hid (show ¬ T B ∧ ¬ T G ∧ ¬ T g from ⟨fun e => hU _ e (.inl rfl), fun e => hU _ e (.inr (.inl rfl)), fun e => hU _ e (.inr (.inr rfl))⟩)
  have HTlt := Lib.hid (fun k e => sJ.lt _ _ _ hJ0 k e)
  have HH := Lib.hid hH
  have HY := Lib.hid hY
  have HJ := Lib.hid hJ0
  have HR := Lib.hid hr
  have KY := Lib.hid (Bk.new W #[.func (.yield l) #[] #[]] 118)
  have B0 := Lib.hid (below1 W (.cells #[.func (.yield l) #[] #[]] 118))
  have d0 : (W.alloc (.cells #[.func (.yield l) #[] #[]] 118)).cell? ⟨B, 0, none⟩ = some (.int .i64 m) := (hH.1.alloc _).cell 0 rfl
  clear hU hY hH hr hJ0
  refine callsIn_of_wp_marks Try.func97 rfl trivial ?_ rfl
  simp only [Try.ntmps97, List.size_toArray, List.length_cons, List.length_nil, Nat.reduceAdd, Nat.reduceSub, Array.replicate_succ, Array.replicate_zero, List.push_toArray, List.append_toArray, List.nil_append, List.cons_append]
  gi_wp2_with (refine ⟨trivial, ?_⟩; gi_at_call 98; refine (callsIn_wide.2 (i_box m hm1 hm3 _)).mono ?_; rintro e w1 ⟨rfl, hE, hb⟩)
  rw [World.size_alloc] at hE
  have HB1 := Lib.hid (B0.out.trans (hb.mono (by simp)))
  have HY1 := Lib.hid (KY.out.below hb)
  have HE := Lib.hid hE
  clear hb hE d0
  have hyt : ¬ T W.heap.size := fun e => by have := HTlt.out _ e; omega
  have het : ¬ T (W.heap.size + 1) := fun e => by have := HTlt.out _ e; omega
  refine wp_rangeT (gf := 126) (lb := #[.pointer (some ⟨W.heap.size + 1, 0, none⟩)]) rfl (enters_of Try.func126 (by kernel_rfl) rfl)
    (i_box1 (W.heap.size + 1) (edge m 0) (edge m 1) (edge m 2) (edge_le _ _) (edge_le _ _) (edge_le _ _)) (fun w' hb => HE.out.below hb) (fun _ => rfl)
    (fun pre T' W' => J (pre.filter (inA hs)) T' W') (fun cc pre T' W' => cc = .ret ∧ Jx (pre.filter (inA hs)) T' W')
    (PtMid J (inA hs) (fun x X => { tmps := #[.func (.yield l) #[] #[], .pointer (some ⟨B, 0, none⟩), .pointer (some ⟨G, 0, none⟩), .pointer (some ⟨W.heap.size, 0, none⟩), .pointer (some ⟨X, 0, none⟩), .pointer (some ⟨B, 0, none⟩), .int .i64 m,
      .func (.func 126) #[] #[.pointer (some ⟨W.heap.size + 1, 0, none⟩)], .agg #[.int .i64 (x.getD 0 0), .int .i64 (x.getD 1 0), .int .i64 (x.getD 2 0)], undef, undef, undef, undef, undef, undef, undef, undef, undef], defers := [] }))
    (sep_map sJ _) (fun cc => sep_and (sep_map sJx _) _) (fun x a' => ptmid_sep sJ _ _ x a') T (sJ.later HJ.out HB1.out) (fun k hk => by subst hk; exact ⟨HE.out.lt, het⟩) ?assign ?body ?done ?stop
  case assign =>
    intro l2 pre x T2 W2 hsz hj hg hf hpre
    have HJ2 := Lib.hid hj
    have HX := Lib.hid (Bk.new W2 #[.int .i64 (x.getD 0 0), .int .i64 (x.getD 1 0), .int .i64 (x.getD 2 0)] 77)
    have hx2 := Lib.hid (fun e => by have := sJ.lt _ _ _ hj _ e; omega : ¬ T2 W2.heap.size)
    clear hj hg hf hpre
    unfold encN nums3
    gi_wp2
    refine ⟨fun k => T2 k ∨ k = W2.heap.size, fun k hk => hk.elim .inl (fun e => .inr (by omega)), (Fol.refl _ _).alloc _, T2, W2.heap.size, rfl, hx2.out, sJ.later HJ2.out (below1 _ _), HX.out, rfl⟩
  case body =>
    rintro l2 pre x a' T' W2 hsz ⟨T2, X, rfl, hX, hJ, hBx, rfl⟩ hg hf hpre
    obtain ⟨q1, q2, q3, rfl, b1, b2, b3, _, _⟩ := trip_mem (n := m) (t := x) (hpre.subset (List.mem_append_right _ (List.mem_singleton.2 rfl)))
    simp only [List.getD_cons_zero, List.getD_cons_succ] at hBx ⊢
    have HPo := Lib.hid ((HH.out.fol (Fol.of_below (T := T) HB1.out) HT.out).fol hf HT.out)
    have KY2 := Lib.hid (hf.bk HY1.out hyt)
    have HX := Lib.hid hBx
    have HJ2 := Lib.hid hJ
    have HX2 := Lib.hid hX
    have HG2 := Lib.hid (show Grew T T2 W from fun k hk => (hg k (.inl hk)).imp id (fun e => by have := HB1.out.size; omega))
    have HF2 := Lib.hid (show Fol T W W2 from (Fol.of_below (T := T) HB1.out).trans (Grew.refl _ _) hf)
    have HP := Lib.hid hpre
    obtain ⟨x0, x1, x2⟩ := hBx.c3
    have y0 : W2.cell? ⟨W.heap.size, 0, none⟩ = some (.func (.yield l) #[] #[]) := KY2.out.cell 0 rfl
    have g0 : W2.cell? ⟨G, 0, none⟩ = some (.slice (some ⟨g, 0, none⟩) hs.length c) := HPo.out.2.1.cell 0 rfl
    have CI := Lib.hid (i_inall hs q1 q2 q3 g c g (g + 1) W2 HPo.out.2.2 (regOk_t HR.out).2.2.1 (half_small HR.out) (by omega) (by omega) (by omega))
    clear hg hf hpre hJ hBx hX b1 b2 b3
    by_cases hin : inA hs [q1, q2, q3] = true
    · have HFil := Lib.hid (show (pre ++ [[q1, q2, q3]]).filter (inA hs) = pre.filter (inA hs) ++ [[q1, q2, q3]] by rw [filter_snoc, if_pos hin])
      have HPre := Lib.hid (show pre.filter (inA hs) ++ [[q1, q2, q3]] <+: triR m hs by rw [← HFil.out]; exact filter_prefix _ HP.out)
      have HIn := Lib.hid hin
      clear hin
      gi_wp2_with (refine ⟨trivial, ?_⟩; gi_at_call 80; refine (CallsIn.inRound l2 (callsIn_wide.2 CI.out)).mono ?_; rintro e w3 ⟨rfl, hb3⟩; rw [HIn.out]; have x0' := (hb3.cell (p := ⟨X, 0, none⟩) HX.out.lt).trans x0; have x1' := (hb3.cell (p := ⟨X, 1, none⟩) HX.out.lt).trans x1; have x2' := (hb3.cell (p := ⟨X, 2, none⟩) HX.out.lt).trans x2; have y0' := (hb3.cell (p := ⟨W.heap.size, 0, none⟩) KY2.out.lt).trans y0; obtain ⟨fn, tmps, assign, body, hy, hR⟩ := HY.out (pre.filter (inA hs)) [q1, q2, q3] T2 w3 (sJ.later HJ2.out hb3) HG2.out (HF2.out.then_below hb3) HPre.out; have HRo := Lib.hid hR; clear hR; replace hy : (Instr.yield l #[.agg #[.int .i64 q1, .int .i64 q2, .int .i64 q3]]).run Try.prog w3 = .ok (.round l fn tmps assign body) w3 := hy)
      refine (RoundIn.into l2 HRo.out).mono ?_
      have HF3 := Lib.hid (Fol.of_below (T := T2) hb3)
      clear hb3 hy x0 x1 x2 x0' x1' x2' y0 y0' g0
      rintro e w4 ⟨T4, hg4, hf4, ⟨rfl, hJ4⟩ | ⟨rfl, hJ4⟩⟩
      · have HG4 := Lib.hid (show Grew (fun k => T2 k ∨ k = X) T4 W2 from fun k hk => (hg4 k hk).imp .inl (fun e => Nat.le_trans HF3.out.size e))
        have HF4 := Lib.hid (show Fol (fun k => T2 k ∨ k = X) W2 w4 from (HF3.out.trans (Grew.refl _ _) hf4).mono (fun _ _ e => .inl e))
        have HJ4 := Lib.hid hJ4
        clear hg4 hf4 hJ4
        gi_wp2
        exact ⟨T4, HG4.out, HF4.out, by dsimp only; rw [HFil.out]; exact HJ4.out⟩
      · have HG4 := Lib.hid (show Grew (fun k => T2 k ∨ k = X) T4 W2 from fun k hk => (hg4 k hk).imp .inl (fun e => Nat.le_trans HF3.out.size e))
        have HF4 := Lib.hid (show Fol (fun k => T2 k ∨ k = X) W2 w4 from (HF3.out.trans (Grew.refl _ _) hf4).mono (fun _ _ e => .inl e))
        have HJ4 := Lib.hid hJ4
        clear hg4 hf4 hJ4
        gi_wp2
        exact ⟨T4, HG4.out, HF4.out, rfl, by rw [HFil.out]; exact HJ4.out⟩
    · have HFil := Lib.hid (show (pre ++ [[q1, q2, q3]]).filter (inA hs) = pre.filter (inA hs) by rw [filter_snoc, if_neg hin, List.append_nil])
      have HIn := Lib.hid (bool_f hin)
      clear hin
      gi_wp2_with (refine ⟨trivial, ?_⟩; gi_at_call 80; refine (CallsIn.inRound l2 (callsIn_wide.2 CI.out)).mono ?_; rintro e w3 ⟨rfl, hb3⟩; rw [HIn.out])
      have HB3 := Lib.hid hb3
      clear hb3
      refine ⟨fun _ h => (by cases h), ?_⟩
      gi_wp2
      exact ⟨T2, fun k hk => .inl (.inl hk), Fol.of_below HB3.out, by dsimp only; rw [HFil.out]; exact sJ.later HJ2.out HB3.out⟩
  case done =>
    intro T' W2 hg hf hsz hj hn hK
    gi_wp2
    refine ⟨by simp, .inl ⟨_, _, rfl, run_takeDeferred hK, ?_⟩⟩
    obtain ⟨k1, k2⟩ := leave_fol (.deferred none) HB1.out hg hf
    exact ⟨_, results_none rfl _ _ _, ⟨_, rfl⟩, T', k1, k2, .inl (sJ.putObj _ hj hn)⟩
  case stop =>
    rintro cc pre T' W2 hg hf hsz hpre ⟨rfl, hj⟩ hn hK
    gi_wp2
    refine ⟨by simp, .inl ⟨_, _, rfl, run_takeDeferred hK, ?_⟩⟩
    obtain ⟨k1, k2⟩ := leave_fol (.deferred none) HB1.out hg hf
    exact ⟨_, results_none rfl _ _ _, ⟨_, rfl⟩, T', k1, k2, .inr ⟨_, filter_prefix _ hpre, sJx.putObj _ hj hn⟩⟩
end Go.Proofs.Ytmogncpkdkdodaa
/- Plain facts: three numbers each are the points of the region. -/
namespace Go.Proofs.Ytmogncpkdkdodaa
open Go Go.RowKit Go.Lib

theorem dot_three {h : List Int} {x y z : Int} {n : Nat} (hl : h.length = n) (h1 : 1 ≤ n) (h3 : n ≤ 3) : dotL h ([x, y, z].take n) = dot3 h [x, y, z] := by
  subst hl
  match h, h1, h3 with
  | [a], _, _ => simp [dotL, dot3]
  | [a, b], _, _ => simp [dotL, dot3]
  | [a, b, c], _, _ => simp [dotL, dot3]; omega
theorem has_in {n : Nat} {hs : List Hf} (hr : regOk n hs = true) {t : List Int} (ht : t ∈ trip n) : hasL hs (t.take n) = inA hs t := by
  obtain ⟨x, y, z, rfl, _⟩ := trip_mem ht
  have h1 : 1 ≤ n := by have := (regOk_t hr).1; omega
  have h3 : n ≤ 3 := by have := (regOk_t hr).2.1; omega
  unfold hasL inA
  rw [Bool.eq_iff_iff, List.all_eq_true, List.all_eq_true]
  refine forall_congr' fun h => forall_congr' fun hm => ?_
  obtain ⟨i, hi, rfl⟩ := List.mem_iff_getElem.1 hm
  have hl := (halfOk_t ((regOk_t hr).2.2.2 i hi)).2.2.1
  rw [dot_three (by omega) h1 h3]
theorem tri_pts {n : Nat} {hs : List Hf} (hr : regOk n hs = true) : (triR n hs).map (fun t => t.take n) = ptsL n hs := by
  have h1 : 1 ≤ n := by have := (regOk_t hr).1; omega
  have h3 : n ≤ 3 := by have := (regOk_t hr).2.1; omega
  unfold triR ptsL
  rw [show ((n : Int)).toNat = n by omega, ← trip_box h1 h3, List.filter_map]
  congr 1
  refine List.filter_congr fun t ht => ?_
  exact (has_in hr ht).symm
theorem tri_len {n : Nat} {hs : List Hf} (hr : regOk n hs = true) : (triR n hs).length = (ptsL n hs).length := by rw [← tri_pts hr, List.length_map]
theorem tripL_len (A B C : List Int) : (tripL A B C).length = A.length * (B.length * C.length) := by
  have key : ∀ x, (B.flatMap fun y => C.map fun z => [x, y, z]).length = B.length * C.length := fun x => by
    induction B with
    | nil => simp
    | cons y B ih2 => rw [List.flatMap_cons, List.length_append, ih2, List.length_cons, List.length_map, Nat.succ_mul, Nat.add_comm]
  unfold tripL
  induction A with
  | nil => simp
  | cons x A ih => rw [List.flatMap_cons, List.length_append, ih, key, List.length_cons, Nat.succ_mul, Nat.add_comm]
theorem trip_len (n : Int) : (trip n).length ≤ 2197 := by
  unfold trip
  rw [tripL_len, axis_len, axis_len, axis_len]
  have h0 := edge_le n 0
  have h1 := edge_le n 1
  have h2 := edge_le n 2
  have a : (2 * edge n 1 + 1) * (2 * edge n 2 + 1) ≤ 13 * 13 := Nat.mul_le_mul (by omega) (by omega)
  have b : (2 * edge n 0 + 1) * ((2 * edge n 1 + 1) * (2 * edge n 2 + 1)) ≤ 13 * (13 * 13) := Nat.mul_le_mul (by omega) a
  omega
theorem tri_len_le (n : Int) (hs : List Hf) : (triR n hs).length ≤ 2197 := Nat.le_trans (List.length_filter_le ..) (trip_len n)
theorem pre_len {α : Type} {l m : List α} {x : α} (h : l ++ [x] <+: m) : l.length < m.length := by
  have := h.length_le
  simp at this; omega
theorem countR_f {n : Int} {hs : List Hf} (h : regOk n hs = false) : countR n hs = -1 := by unfold countR; rw [h]; rfl
theorem countR_t {n : Nat} {hs : List Hf} (h : regOk n hs = true) : countR n hs = (triR n hs).length := by unfold countR; rw [if_pos h, tri_len h]
end Go.Proofs.Ytmogncpkdkdodaa
/- The program's CountIn. -/
namespace Go.Proofs.Ytmogncpkdkdodaa
open Go Go.RowKit Go.Lib Go.Shelf

attribute [local go_sem] Oper.semAt_some

/-- A block of the caller's own. -/
def OneB {α : Type} (C : Nat) (cs : α → Array Value) (R : TypeId) (s : α) (T : Bs) (W : World) : Prop := T = (fun k => k = C) ∧ Bk W C (cs s) R
theorem oneb_sep {α : Type} (C : Nat) (cs : α → Array Value) (R : TypeId) : Sep (OneB C cs R) := by
  refine ⟨fun s T w hj k hk => ?_, fun s T w w' hj hb hk => ?_⟩
  · obtain ⟨rfl, h⟩ := hj; obtain rfl := hk; exact h.lt
  · obtain ⟨rfl, h⟩ := hj; exact ⟨rfl, (hk C rfl).trans h⟩

set_option maxRecDepth 100000 in
set_option maxHeartbeats 3200000 in
theorem i_countin (r : Rgn) (v : Value) (w : World) (hv : Rg w v r) :
    Calls Try.prog 21 #[v] w (Quiet w (.int .i64 (countR r.1 r.2))) := by
  obtain ⟨n, hs'⟩ := r
  have HR := Lib.hid hv
  obtain ⟨u, rfl, hss⟩ := hv
  simp only at hss ⊢
  have K := Lib.hid (Bk.new w #[.int .i64 n, u] 26)
  have B0 := Lib.hid (below1 w (.cells #[.int .i64 n, u] 26))
  obtain ⟨⟨l0, l1⟩, -⟩ := K.out.two
  clear hss
  by_cases hr : regOk n hs' = true
  case neg =>
    have C1 := Lib.hid (bool_f hr)
    have E := Lib.hid (countR_f (bool_f hr))
    clear hr
    go_enter Try.func21, Try.ntmps21
    go_wp2_with fail
    refine (i_isreg (n, hs') _ _ (HR.out.below B0.out)).mono ?_
    rintro e w1 ⟨rfl, hb⟩
    rw [C1.out]
    have B1 := Lib.hid (B0.out.trans (hb.mono B0.out.size))
    clear hb
    go_wp2_with fail
    go_ret
    exact ⟨ret_int E.out.symm, B1.out⟩
  obtain ⟨m, rfl⟩ : ∃ m : Nat, n = m := ⟨n.toNat, by have := (regOk_t hr).1; omega⟩
  have C1 := Lib.hid hr
  have E := Lib.hid (countR_t hr)
  clear hr
  refine callsIn_wide (n := 9) |>.1 ?_
  refine callsIn_of_wp_marks Try.func21 rfl trivial ?_ rfl
  simp only [Try.ntmps21, List.size_toArray, List.length_cons, List.length_nil, Nat.reduceAdd, Nat.reduceSub, Array.replicate_succ, Array.replicate_zero, List.push_toArray, List.append_toArray, List.nil_append, List.cons_append]
  gi_wp2_with (first | (refine ⟨trivial, ?_⟩; gi_at_call 49; refine (callsIn_wide.2 (i_isreg (m, hs') _ _ (HR.out.below B0.out))).mono ?_; rintro e w1 ⟨rfl, hb⟩; rw [C1.out]; have B1 := Lib.hid (B0.out.trans (hb.mono B0.out.size)); obtain ⟨⟨l2, l3⟩, -⟩ := ((K.out.below hb).alloc (.cells #[.int .i64 0] 3)).two; have B1' := Lib.hid hb; clear hb) | (refine ⟨trivial, ?_⟩; gi_at_call 50; refine (callsIn_wide.2 (i_points (m, hs') _ _ ((HR.out.below B1.out).below (below1 _ _)) C1.out)).mono ?_; rintro e w2 ⟨B, G, g, c, U, rfl, hP, hb2, hB, hG, hg⟩))
  have HC := Lib.hid ((Bk.new w1 #[.int .i64 0] 3).below hb2)
  have HB2 := Lib.hid ((B1.out.alloc B1.out.size (.cells #[.int .i64 0] 3)).trans (hb2.mono (by have := B1.out.size; simp; omega)))
  rw [World.size_alloc] at hB hG hg
  have hC0 := B1.out.size
  have hlen := tri_len_le m hs'
  clear l0 l1 l2 l3 B1' hb2
  have HP := Lib.hid hP
  clear hP
  refine wp_rangeT (gf := 97) (lb := #[.pointer (some ⟨B, 0, none⟩), .pointer (some ⟨G, 0, none⟩)]) rfl (enters_of Try.func97 (by kernel_rfl) rfl)
    (i_points1 B G g c m U hs' C1.out) (fun w' hb => HP.out.fol (Fol.of_below (T := fun _ => False) hb) ⟨id, id, id⟩) (fun _ => rfl)
    (OneB w1.heap.size (fun pre : List (List Int) => #[.int .i64 pre.length]) 3) (fun _ _ _ _ => False)
    (fun x a' pre T' W' => a' = { tmps := #[.agg #[.int .i64 m, u], .pointer (some ⟨w.heap.size, 0, none⟩), .int .i64 0, .pointer (some ⟨w1.heap.size, 0, none⟩), .agg #[.int .i64 m, u], .bool true, .bool false, .agg #[.int .i64 m, u],
      .func (.func 97) #[] #[.pointer (some ⟨B, 0, none⟩), .pointer (some ⟨G, 0, none⟩)], nums3 x, undef, undef, undef], defers := [] } ∧ OneB w1.heap.size (fun pre : List (List Int) => #[.int .i64 pre.length]) 3 pre T' W')
    (oneb_sep _ _ _) (fun cc => Sep.no) (fun x a' => sep_and (oneb_sep _ _ _) _) (fun k => k = w1.heap.size) ⟨rfl, HC.out⟩ ?hu ?assign ?body ?done ?stop
  case hu =>
    rintro k (rfl | rfl | rfl)
    · exact ⟨HP.out.1.lt, by omega⟩
    · exact ⟨HP.out.2.1.lt, by omega⟩
    · exact ⟨HP.out.2.2.tight.2.2, by omega⟩
  case assign =>
    intro l2 pre x T2 W2 hsz hj hg hf hpre
    have HJ2 := Lib.hid hj
    clear hj hg hf hpre
    unfold encN
    gi_wp2
    exact ⟨T2, Grew.refl _ _, Fol.refl _ _, by simp, HJ2.out⟩
  case body =>
    rintro l2 pre x a' T2 W2 hsz ⟨rfl, rfl, hj⟩ hg hf hpre
    have c0 : W2.cell? ⟨w1.heap.size, 0, none⟩ = some (.int .i64 pre.length) := hj.cell 0 rfl
    have f0 := hj.free 0
    have hl := pre_len hpre
    have HJ2 := Lib.hid hj
    clear hj hg hf hpre
    gi_wp2
    refine ⟨fun k => k = w1.heap.size, Grew.refl _ _, (Fol.refl (fun k => k = w1.heap.size) _).setCell (p := ⟨w1.heap.size, 0, none⟩) (.inl rfl) _, rfl, ?_⟩
    have := HJ2.out.set 0 (.int .i64 ((pre.length : Int) + 1)) (by simp)
    simpa using this
  case done =>
    rintro T' W2 hg2 hf hsz ⟨rfl, hj⟩ hn hK
    have c0 : W2.cell? ⟨w1.heap.size, 0, none⟩ = some (.int .i64 (triR m hs').length) := hj.cell 0 rfl
    have HB4 := Lib.hid (HB2.out.trans (hf.to_below (B := w.heap.size) (fun k e => by omega) HB2.out.size))
    have hD := HB2.out.size
    clear hf hg2 hj
    gi_wp2
    refine ⟨by simp, .inl ⟨_, _, rfl, run_takeDeferred hK, ?_⟩⟩
    exact ⟨.int .i64 (triR m hs').length, results_tmp (t := 2) rfl _ _ _, ret_int E.out.symm, HB4.out.trans ((Below.refl _ W2).grown (grownBy_putObj' W2 w2.heap.size (.deferred none)) (by omega) (fun k e => by cases e; omega))⟩
  case stop => exact fun cc pre T' W2 _ _ _ _ h _ _ => h.elim
end Go.Proofs.Ytmogncpkdkdodaa
