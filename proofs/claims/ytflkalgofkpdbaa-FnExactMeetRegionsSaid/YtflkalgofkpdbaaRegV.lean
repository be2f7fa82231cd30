/- The model's MoveRegion. -/
import Derived.Test.YtflkalgofkpdbaaRegN
import Derived.Test.YtflkalgofkpdbaaRegC
namespace Go.Proofs.Ytflkalgofkpdbaa
open Go.RowKit Go.Lib

set_option maxRecDepth 100000 in
set_option maxHeartbeats 800000 in
theorem s_move_f1 (r : Rgn) (x : List Int) (v a : Value) (w : World) (c1 : regOk r.1 r.2 = false) (hv : Rg w v r) (ha : Sl w a (intVals x)) :
    Calls Try.prog 23 #[v, a] w (GotG w (moveR r.1 r.2 x)) := by
  rw [moveR_f (ptR_f1 c1)]
  have C1 := Lib.hid c1
  clear c1
  have HR := Lib.hid hv
  have HX := Lib.hid ha
  obtain ⟨u, rfl, _⟩ := hv
  obtain ⟨p, c, rfl, hm, _⟩ := ha.shape
  rw [intVals_len] at hm HX ⊢
  unfold maxLen at hm
  have K := Lib.hid (Bk.pair w #[.int .i64 r.1, u] #[.int .i64 0, .slice none 0 0] 38 38)
  have B0 := Lib.hid (below2 w (.cells #[.int .i64 r.1, u] 38) (.cells #[.int .i64 0, .slice none 0 0] 38))
  clear ha
  go_enter Try.func23, Try.ntmps23
  go_wp2_with fail
  refine (s_isreg r _ _ (HR.out.below B0.out)).mono ?_
  rintro e w1 ⟨rfl, hb⟩
  rw [C1.out]
  have B1 := Lib.hid (B0.out.trans (hb.mono B0.out.size))
  have K1 := Lib.hid (And.intro (K.out.1.below hb) (K.out.2.below hb))
  clear hb
  obtain ⟨⟨p0, p1⟩, pf0, pf1⟩ := K1.out.2.two
  obtain ⟨⟨l0, -⟩, -⟩ := K1.out.1.two
  go_wp2
  refine bodyPost_ret (v := .tuple #[.agg #[.int .i64 0, .slice none 0 0], .bool false]) ?_ rfl ⟨⟨_, rfl, OwG.zero⟩, (B1.out.setCell (by simp) _).setCell (by simp) _⟩
  simp [results, Try.results23, go_sem, p0, p1]

set_option maxRecDepth 100000 in
set_option maxHeartbeats 800000 in
theorem s_move_f2 (r : Rgn) (x : List Int) (v a : Value) (w : World) (c1 : regOk r.1 r.2 = true) (c2 : isV x = false) (hv : Rg w v r) (ha : Sl w a (intVals x)) :
    Calls Try.prog 23 #[v, a] w (GotG w (moveR r.1 r.2 x)) := by
  rw [moveR_f (ptR_f2 c2)]
  have C1 := Lib.hid c1
  have C2 := Lib.hid c2
  clear c1 c2
  have HR := Lib.hid hv
  have HX := Lib.hid ha
  obtain ⟨u, rfl, _⟩ := hv
  obtain ⟨p, c, rfl, hm, _⟩ := ha.shape
  rw [intVals_len] at hm HX ⊢
  unfold maxLen at hm
  have K := Lib.hid (Bk.pair w #[.int .i64 r.1, u] #[.int .i64 0, .slice none 0 0] 38 38)
  have B0 := Lib.hid (below2 w (.cells #[.int .i64 r.1, u] 38) (.cells #[.int .i64 0, .slice none 0 0] 38))
  clear ha
  go_enter Try.func23, Try.ntmps23
  go_wp2_with fail
  refine (s_isreg r _ _ (HR.out.below B0.out)).mono ?_
  rintro e w1 ⟨rfl, hb⟩
  rw [C1.out]
  have B1 := Lib.hid (B0.out.trans (hb.mono B0.out.size))
  have K1 := Lib.hid (And.intro (K.out.1.below hb) (K.out.2.below hb))
  clear hb
  go_wp2_with fail
  refine (s_isv x _ _ (HX.out.below B1.out)).mono ?_
  rintro e w2 ⟨rfl, hb⟩
  rw [C2.out]
  have B2 := Lib.hid (B1.out.trans (hb.mono B1.out.size))
  have K2 := Lib.hid (And.intro (K1.out.1.below hb) (K1.out.2.below hb))
  clear hb
  obtain ⟨⟨p0, p1⟩, pf0, pf1⟩ := K2.out.2.two
  obtain ⟨⟨l0, -⟩, -⟩ := K2.out.1.two
  go_wp2
  refine bodyPost_ret (v := .tuple #[.agg #[.int .i64 0, .slice none 0 0], .bool false]) ?_ rfl ⟨⟨_, rfl, OwG.zero⟩, (B2.out.setCell (by simp) _).setCell (by simp) _⟩
  simp [results, Try.results23, go_sem, p0, p1]

set_option maxRecDepth 100000 in
set_option maxHeartbeats 800000 in
theorem s_move_f3 (r : Rgn) (x : List Int) (v a : Value) (w : World) (c1 : regOk r.1 r.2 = true) (c2 : isV x = true) (c3 : ¬ (x.length : Int) = r.1) (hv : Rg w v r) (ha : Sl w a (intVals x)) :
    Calls Try.prog 23 #[v, a] w (GotG w (moveR r.1 r.2 x)) := by
  rw [moveR_f (ptR_f3 c3)]
  have hne : ((x.length : Int) == r.1) = false := by rw [beq_eq_false_iff_ne]; exact c3
  have hne2 : ((x.length : Int) != r.1) = true := by rw [bne_iff_ne]; exact c3
  have C1 := Lib.hid c1
  have C2 := Lib.hid c2
  clear c1 c2 c3
  have HR := Lib.hid hv
  have HX := Lib.hid ha
  obtain ⟨u, rfl, _⟩ := hv
  obtain ⟨p, c, rfl, hm, _⟩ := ha.shape
  rw [intVals_len] at hm HX ⊢
  unfold maxLen at hm
  have K := Lib.hid (Bk.pair w #[.int .i64 r.1, u] #[.int .i64 0, .slice none 0 0] 38 38)
  have B0 := Lib.hid (below2 w (.cells #[.int .i64 r.1, u] 38) (.cells #[.int .i64 0, .slice none 0 0] 38))
  clear ha
  go_enter Try.func23, Try.ntmps23
  go_wp2_with fail
  refine (s_isreg r _ _ (HR.out.below B0.out)).mono ?_
  rintro e w1 ⟨rfl, hb⟩
  rw [C1.out]
  have B1 := Lib.hid (B0.out.trans (hb.mono B0.out.size))
  have K1 := Lib.hid (And.intro (K.out.1.below hb) (K.out.2.below hb))
  clear hb
  go_wp2_with fail
  refine (s_isv x _ _ (HX.out.below B1.out)).mono ?_
  rintro e w2 ⟨rfl, hb⟩
  rw [C2.out]
  have B2 := Lib.hid (B1.out.trans (hb.mono B1.out.size))
  have K2 := Lib.hid (And.intro (K1.out.1.below hb) (K1.out.2.below hb))
  clear hb
  obtain ⟨⟨p0, p1⟩, pf0, pf1⟩ := K2.out.2.two
  obtain ⟨⟨l0, -⟩, -⟩ := K2.out.1.two
  go_wp2
  refine bodyPost_ret (v := .tuple #[.agg #[.int .i64 0, .slice none 0 0], .bool false]) ?_ rfl ⟨⟨_, rfl, OwG.zero⟩, (B2.out.setCell (by simp) _).setCell (by simp) _⟩
  simp [results, Try.results23, go_sem, p0, p1]

theorem got_mk {w : World} {r r' : Rgn × Bool} {e : Ending} {w' : World} (h : r' = r) (g : GotG w r e w') : GotG w r' e w' := by subst h; exact g
/-- What MoveRegion's loop keeps: the answer's box, the box of what is moved, its halves. -/
def MoveI (w : World) (B lo : Nat) (n : Int) (V : Value) (hs : List Hf) (wr : World) : Prop :=
  Bk wr (w.heap.size + 1) #[.int .i64 0, .slice none 0 0] 38 ∧ Bk wr B #[.int .i64 n, V] 38 ∧ OwH 27 3 lo B wr V hs ∧ Below w.heap.size w wr ∧ w.heap.size + 2 ≤ lo ∧ B < wr.heap.size

set_option maxRecDepth 100000 in
set_option maxHeartbeats 3200000 in
theorem s_move_t (r : Rgn) (x : List Int) (v a : Value) (w : World) (hp : ptR r x = true) (hv : Rg w v r) (ha : Sl w a (intVals x)) :
    Calls Try.prog 23 #[v, a] w (GotG w (moveR r.1 r.2 x)) := by
  obtain ⟨n, hs'⟩ := r
  have HE := Lib.hid (moveR_e hp)
  have HD := Lib.hid (half_dot hp)
  have HDB := Lib.hid (half_dot_bd hp)
  have HBB := Lib.hid (half_bound (ptR_t hp).1)
  have HLL := Lib.hid (half_lens (ptR_t hp).1)
  obtain ⟨c1, c2, c3⟩ := ptR_t hp
  simp only at HE HD HDB HBB HLL c1 c2 c3 ⊢
  have H8 := Lib.hid (regOk_t c1).2.2.1
  have hne : ((x.length : Int) == n) = true := by rw [beq_iff_eq]; exact c3
  have hne2 : ((x.length : Int) != n) = false := by rw [c3]; simp
  have C1 := Lib.hid c1
  have C2 := Lib.hid c2
  clear c1 c2 c3 hp
  have HR := Lib.hid hv
  have HX := Lib.hid ha
  obtain ⟨u, rfl, _⟩ := hv
  obtain ⟨p, c, rfl, hm, _⟩ := ha.shape
  rw [intVals_len] at hm HX ⊢
  unfold maxLen at hm
  have K := Lib.hid (Bk.pair w #[.int .i64 n, u] #[.int .i64 0, .slice none 0 0] 38 38)
  have B0 := Lib.hid (below2 w (.cells #[.int .i64 n, u] 38) (.cells #[.int .i64 0, .slice none 0 0] 38))
  clear ha
  go_enter Try.func23, Try.ntmps23
  go_wp2_with fail
  refine (s_isreg (n, hs') _ _ (HR.out.below B0.out)).mono ?_
  rintro e w1 ⟨rfl, hb⟩
  rw [C1.out]
  have B1 := Lib.hid (B0.out.trans (hb.mono B0.out.size))
  have K1 := Lib.hid (And.intro (K.out.1.below hb) (K.out.2.below hb))
  clear hb
  go_wp2_with fail
  refine (s_isv x _ _ (HX.out.below B1.out)).mono ?_
  rintro e w2 ⟨rfl, hb⟩
  rw [C2.out]
  have B2 := Lib.hid (B1.out.trans (hb.mono B1.out.size))
  have K2 := Lib.hid (And.intro (K1.out.1.below hb) (K1.out.2.below hb))
  clear hb
  obtain ⟨⟨l0, l1⟩, -⟩ := K2.out.1.two
  go_wp2_with fail
  refine (s_copy (n, hs') _ _ (HR.out.below B2.out) HLL.out (by have := H8.out; show hs'.length ≤ _; omega)).mono ?_
  rintro e w3 ⟨⟨_, rfl, z, rfl, ho⟩, hb⟩
  obtain ⟨za, zc, rfl, hzm⟩ := ho.hs.shape
  have HO := Lib.hid (show OwH 27 3 w2.heap.size w3.heap.size w3 (.slice za hs'.length zc) hs' from ho)
  have B3 := Lib.hid (B2.out.trans (hb.mono B2.out.size))
  have K3 := Lib.hid (K2.out.2.below hb)
  have Z2 := Lib.hid K2.out.2.lt
  have hb4 := below1 w3 (.cells #[.int .i64 n, .slice za hs'.length zc] 38)
  have ST := Lib.hid (show MoveI w w3.heap.size w2.heap.size n (.slice za hs'.length zc) hs' (w3.alloc (.cells #[.int .i64 n, .slice za hs'.length zc] 38)) from ⟨K3.out.below hb4, Bk.new _ _ _, HO.out.below hb4, B3.out.trans (hb4.mono B3.out.size), Z2.out, by simp⟩)
  unfold maxLen at hzm
  have hzm2 : hs'.length ≤ 9223372036854775807 := hzm
  clear ho hb hb4 hzm l0 l1
  go_wp2
  go_loopw [7] (fun i wr => ∃ k : Nat, k ≤ hs'.length ∧ i = .int .i64 k ∧ MoveI w w3.heap.size w2.heap.size n (.slice za hs'.length zc) (movedH hs' x k) wr) (fun i _ => hs'.length - (RowKit.intOf i).toNat)
  case atStart => exact ⟨0, Nat.zero_le _, rfl, by rw [movedH_zero]; exact ST.out⟩
  case round =>
    obtain ⟨k, hk, rfl, hci⟩ := hrel
    have HC := Lib.hid hci
    clear hci
    obtain ⟨⟨m0, m1⟩, -, -⟩ := HC.out.2.1.two
    by_cases hlt : k < hs'.length
    · obtain ⟨b, y, e1, hb1, hb2, hb3, hcell, hcell1, _, hfr, hrow, _⟩ := HC.out.2.2.1.at k (by rw [movedH_len]; exact hlt) rfl
      rw [movedH_at hlt] at hrow hcell1
      subst e1
      have HX1 := Lib.hid hrow.sl
      have HBl := Lib.hid (And.intro hb1 (And.intro hb2 hb3))
      have HFr := Lib.hid hfr
      have i1 : (0 : Int) ≤ (k : Int) := by omega
      have i2 : (k : Int) < (hs'.length : Int) := by omega
      have HDk := Lib.hid (HD.out k hlt)
      have HZk := Lib.hid (HLL.out k hlt)
      have HM := Lib.hid (movedH_step (v := x) hlt)
      have HXw := Lib.hid (HX.out.below HC.out.2.2.2.1)
      have qb := HDB.out k hlt
      have bb := HBB.out k hlt
      obtain ⟨q, hq⟩ : ∃ q : Int, dotL hs'[k].1 x = q := ⟨_, rfl⟩
      simp only [hq] at qb
      obtain ⟨bk, hbk⟩ : ∃ q : Int, hs'[k].2 = q := ⟨_, rfl⟩
      simp only [hbk] at bb
      have hw : IntKind.i64.wrap (bk + q) = bk + q := IntWalk.i64_in _ (by omega)
      have HQ := Lib.hid hq
      have HBK := Lib.hid hbk
      rw [hbk] at hcell1
      clear hrow hb1 hb2 hb3 hfr hq hbk
      go_wp2
      refine T_begin (z := fun k => 17 < k) (S := fun (w' : World) => w'.cell? ⟨w3.heap.size, 1, none⟩ = some (.slice (some ⟨b, 0, none⟩) hs'.length zc) ∧ w'.cell? ⟨b, k * 2, none⟩ = some y ∧ w'.cell? ⟨b, k * 2 + 1, none⟩ = some (.int .i64 bk)) (by kernel_rfl) ?_
      show wpAnyT _ _ _ _ _ _ 21 _ _ _
      have hS0 := Lib.hid (show (fun (w' : World) => w'.cell? ⟨w3.heap.size, 1, none⟩ = some (.slice (some ⟨b, 0, none⟩) hs'.length zc) ∧ w'.cell? ⟨b, k * 2, none⟩ = some y ∧ w'.cell? ⟨b, k * 2 + 1, none⟩ = some (.int .i64 bk)) _ from ⟨m1, hcell, hcell1⟩)
      refine T_take (i := 0) (v := .pointer (some ⟨w3.heap.size, 1, none⟩)) rfl (by kernel_rfl) (by kernel_rfl) (by kernel_rfl) (by kernel_rfl) (fun _ _ _ h => h) hS0.out rfl (fun w' hS' => by (try dsimp only at hS'); go_simp) ?_
      refine T_take (i := 1) (v := .slice (some ⟨b, 0, none⟩) hs'.length zc) rfl (by kernel_rfl) (by kernel_rfl) (by kernel_rfl) (by kernel_rfl) (fun _ _ _ h => h) hS0.out rfl (fun w' hS' => by (try dsimp only at hS'); go_simp) ?_
      refine T_take (i := 2) (v := .int .i64 k) rfl (by kernel_rfl) (by kernel_rfl) (by kernel_rfl) (by kernel_rfl) (fun _ _ _ h => h) hS0.out rfl (fun w' hS' => by (try dsimp only at hS'); go_simp) ?_
      refine T_take (i := 3) (v := .pointer (some ⟨w3.heap.size, 1, none⟩)) rfl (by kernel_rfl) (by kernel_rfl) (by kernel_rfl) (by kernel_rfl) (fun _ _ _ h => h) hS0.out rfl (fun w' hS' => by (try dsimp only at hS'); go_simp) ?_
      refine T_take (i := 4) (v := .slice (some ⟨b, 0, none⟩) hs'.length zc) rfl (by kernel_rfl) (by kernel_rfl) (by kernel_rfl) (by kernel_rfl) (fun _ _ _ h => h) hS0.out rfl (fun w' hS' => by (try dsimp only at hS'); go_simp) ?_
      refine T_take (i := 5) (v := .int .i64 k) rfl (by kernel_rfl) (by kernel_rfl) (by kernel_rfl) (by kernel_rfl) (fun _ _ _ h => h) hS0.out rfl (fun w' hS' => by (try dsimp only at hS'); go_simp) ?_
      refine T_take (i := 6) (v := .pointer (some ⟨b, k * 2, none⟩)) rfl (by kernel_rfl) (by kernel_rfl) (by kernel_rfl) (by kernel_rfl) (fun _ _ _ h => h) hS0.out rfl (fun w' hS' => by (try dsimp only at hS'); go_simp) ?_
      refine T_take (i := 7) (v := .pointer (some ⟨b, k * 2 + 1, none⟩)) rfl (by kernel_rfl) (by kernel_rfl) (by kernel_rfl) (by kernel_rfl) (fun _ _ _ h => h) hS0.out rfl (fun w' hS' => by (try dsimp only at hS'); go_simp) ?_
      refine T_take (i := 8) (v := .int .i64 bk) rfl (by kernel_rfl) (by kernel_rfl) (by kernel_rfl) (by kernel_rfl) (fun _ _ _ h => h) hS0.out rfl (fun w' hS' => by (try dsimp only at hS'); go_simp) ?_
      refine T_take (i := 9) (v := .pointer (some ⟨w3.heap.size, 1, none⟩)) rfl (by kernel_rfl) (by kernel_rfl) (by kernel_rfl) (by kernel_rfl) (fun _ _ _ h => h) hS0.out rfl (fun w' hS' => by (try dsimp only at hS'); go_simp) ?_
      refine T_take (i := 10) (v := .slice (some ⟨b, 0, none⟩) hs'.length zc) rfl (by kernel_rfl) (by kernel_rfl) (by kernel_rfl) (by kernel_rfl) (fun _ _ _ h => h) hS0.out rfl (fun w' hS' => by (try dsimp only at hS'); go_simp) ?_
      refine T_take (i := 11) (v := .int .i64 k) rfl (by kernel_rfl) (by kernel_rfl) (by kernel_rfl) (by kernel_rfl) (fun _ _ _ h => h) hS0.out rfl (fun w' hS' => by (try dsimp only at hS'); go_simp) ?_
      refine T_take (i := 12) (v := .pointer (some ⟨b, k * 2, none⟩)) rfl (by kernel_rfl) (by kernel_rfl) (by kernel_rfl) (by kernel_rfl) (fun _ _ _ h => h) hS0.out rfl (fun w' hS' => by (try dsimp only at hS'); go_simp) ?_
      refine T_take (i := 13) (v := .pointer (some ⟨b, k * 2, none⟩)) rfl (by kernel_rfl) (by kernel_rfl) (by kernel_rfl) (by kernel_rfl) (fun _ _ _ h => h) hS0.out rfl (fun w' hS' => by (try dsimp only at hS'); go_simp) ?_
      refine T_take (i := 14) (v := y) rfl (by kernel_rfl) (by kernel_rfl) (by kernel_rfl) (by kernel_rfl) (fun _ _ _ h => h) hS0.out rfl (fun w' hS' => by (try dsimp only at hS'); go_simp) ?_
      refine T_take (i := 15) (v := .slice p x.length c) rfl (by kernel_rfl) (by kernel_rfl) (by kernel_rfl) (by kernel_rfl) (fun _ _ _ h => h) hS0.out rfl (fun w' hS' => by (try dsimp only at hS'); go_simp) ?_
      refine T_step (i := 16) rfl (by kernel_rfl) rfl rfl ?_
      intro K hK
      go_simp
      refine (s_dot hs'[k].1 x HDk.out.1 HZk.out.2 20 1000 (by omega) (by omega) HDk.out.2.2.1 HDk.out.2.2.2 _ _ _ (HX1.out.below (Below.refl _ _).drew) (HXw.out.below (Below.refl _ _).drew)).mono ?_
      rintro e w4 ⟨rfl, hb⟩
      rw [HQ.out]
      have hb : Below wr.heap.size wr w4 := (Below.refl _ _).drew.trans hb
      have s1 := show (fun (w' : World) => w'.cell? ⟨w3.heap.size, 1, none⟩ = some (.slice (some ⟨b, 0, none⟩) hs'.length zc) ∧ w'.cell? ⟨b, k * 2, none⟩ = some y ∧ w'.cell? ⟨b, k * 2 + 1, none⟩ = some (.int .i64 bk)) w4 from ⟨(hb.cell (p := ⟨w3.heap.size, 1, none⟩) HC.out.2.2.2.2.2).trans m1, (hb.cell (p := ⟨b, k * 2, none⟩) HBl.out.2.2).trans hcell, (hb.cell (p := ⟨b, k * 2 + 1, none⟩) HBl.out.2.2).trans hcell1⟩
      have HB4 := Lib.hid hb
      clear hb m1 hcell hcell1 hS0
      refine hK.out _ _ s1 ?_
      clear hK K
      have hS1 := Lib.hid s1
      clear s1
      refine T_take (i := 17) (v := .int .i64 (bk + q)) rfl (by kernel_rfl) (by kernel_rfl) (by kernel_rfl) (by kernel_rfl) (fun _ _ _ h => h) hS1.out rfl (fun w' hS' => by (try dsimp only at hS'); go_simp) ?_
      refine T_anytake (i := 18) (v := .pointer (some ⟨b, k * 2, none⟩)) rfl (by kernel_rfl) (by kernel_rfl) (by kernel_rfl) rfl (fun _ _ _ h => h) rfl (fun w' => by go_simp) ?_
      refine T_anytake (i := 19) (v := .pointer (some ⟨b, k * 2 + 1, none⟩)) rfl (by kernel_rfl) (by kernel_rfl) (by kernel_rfl) rfl (fun _ _ _ h => h) rfl (fun w' => by go_simp) ?_
      obtain ⟨-, q0, q1⟩ := hS1.out
      have q2 := (HB4.out.frozen (p := ⟨b, k * 2 + 1, none⟩) HBl.out.2.2).trans HFr.out
      clear q0 hw
      refine T_last (i := 20) rfl (by kernel_rfl) (by kernel_rfl) rfl rfl ?_
      go_simp
      go_wp2
      refine ⟨⟨k + 1, by omega, by go_num, ?_⟩, by simp [RowKit.intOf]; omega⟩
      have h5 := (HC.out.2.2.1.below HB4.out).bound k (by rw [movedH_len]; exact hlt) (bk + q)
      rw [movedH_at hlt, show (hs'[k].1, bk + q) = moveH x hs'[k] by unfold moveH; rw [HQ.out, HBK.out], HM.out] at h5
      have hbl := HBl.out
      have hlo := HC.out.2.2.2.2.1
      exact ⟨(HC.out.1.below HB4.out).other (by show b ≠ _; omega) _, (HC.out.2.1.below HB4.out).other (by show b ≠ _; omega) _, h5, (HC.out.2.2.2.1.trans (HB4.out.mono HC.out.2.2.2.1.size)).setCell (by show _ ≤ b; omega) _, hlo, by have := HB4.out.size; have := HC.out.2.2.2.2.2; simp [World.setCell]; omega⟩
    · obtain rfl : k = hs'.length := by omega
      have HC1 := Lib.hid (show MoveI w w3.heap.size w2.heap.size n (.slice za hs'.length zc) (moveL hs' x) wr by have h := HC.out; rw [movedH_all] at h; exact h)
      obtain ⟨⟨p0, p1⟩, pf0, pf1⟩ := HC1.out.1.two
      by_cases cr : regOk n (moveL hs' x) = true
      · have CR := Lib.hid cr
        clear cr
        go_wp2_with fail
        refine (s_isreg (n, moveL hs' x) _ _ ⟨_, rfl, HC1.out.2.2.1.hs⟩).mono ?_
        rintro e w5 ⟨rfl, hb⟩
        rw [show regOk (n, moveL hs' x).1 (n, moveL hs' x).2 = true from CR.out]
        have K5 := Lib.hid (And.intro (HC1.out.1.below hb) (HC1.out.2.1.below hb))
        have HO5 := Lib.hid (HC1.out.2.2.1.below hb)
        have B5 := Lib.hid (HC1.out.2.2.2.1.trans (hb.mono HC1.out.2.2.2.1.size))
        have HZ5 := Lib.hid (Nat.lt_of_lt_of_le HC1.out.2.2.2.2.2 hb.size)
        clear hb p0 p1 pf0 pf1 m0 m1
        obtain ⟨⟨p0, p1⟩, pf0, pf1⟩ := K5.out.1.two
        obtain ⟨⟨m0, m1⟩, -⟩ := K5.out.2.two
        go_wp2
        refine bodyPost_ret (v := .tuple #[.agg #[.int .i64 n, .slice za hs'.length zc], .bool true]) ?_ rfl (got_mk (r := ((n, moveL hs' x), true)) (HE.out.trans (if_pos CR.out)) ⟨⟨_, rfl, _, rfl, ?_⟩, (B5.out.setCell (by simp) _).setCell (by simp) _⟩)
        · simp [results, Try.results23, go_sem, p0, p1]
        · exact (HO5.out.kept (((Kept.refl (w.heap.size + 1) (w.heap.size + 2) w5).setCell (by simp) (by simp) _).setCell (by simp) (by simp) _) (.inr HC1.out.2.2.2.2.1)).mono (by have := HC1.out.2.2.2.2.1; omega) (by have := HZ5.out; simp [World.setCell]; omega)
      · have CR := Lib.hid (bool_f cr)
        have HE2 := Lib.hid (HE.out.trans (if_neg cr))
        clear cr
        go_wp2_with fail
        refine (s_isreg (n, moveL hs' x) _ _ ⟨_, rfl, HC1.out.2.2.1.hs⟩).mono ?_
        rintro e w5 ⟨rfl, hb⟩
        rw [show regOk (n, moveL hs' x).1 (n, moveL hs' x).2 = false from CR.out]
        have K5 := Lib.hid (HC1.out.1.below hb)
        have B5 := Lib.hid (HC1.out.2.2.2.1.trans (hb.mono HC1.out.2.2.2.1.size))
        clear hb p0 p1 pf0 pf1 m0 m1
        obtain ⟨⟨p0, p1⟩, pf0, pf1⟩ := K5.out.two
        go_wp2
        refine bodyPost_ret (v := .tuple #[.agg #[.int .i64 0, .slice none 0 0], .bool false]) ?_ rfl (got_mk (r := ((0, []), false)) HE2.out ⟨⟨_, rfl, OwG.zero⟩, (B5.out.setCell (by simp) _).setCell (by simp) _⟩)
        simp [results, Try.results23, go_sem, p0, p1]

theorem s_move (r : Rgn) (x : List Int) (v a : Value) (w : World) (hv : Rg w v r) (ha : Sl w a (intVals x)) :
    Calls Try.prog 23 #[v, a] w (GotG w (moveR r.1 r.2 x)) := by
  by_cases c1 : regOk r.1 r.2 = true
  · by_cases c2 : isV x = true
    · by_cases c3 : (x.length : Int) = r.1
      · exact s_move_t r x v a w (ptR_mk c1 c2 c3) hv ha
      · exact s_move_f3 r x v a w c1 c2 c3 hv ha
    · exact s_move_f2 r x v a w c1 (bool_f c2) hv ha
  · exact s_move_f1 r x v a w (bool_f c1) hv ha
end Go.Proofs.Ytflkalgofkpdbaa
