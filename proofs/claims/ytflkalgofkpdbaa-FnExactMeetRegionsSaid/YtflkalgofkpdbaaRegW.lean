/- The model's MeetRegions. -/
import Derived.Test.YtflkalgofkpdbaaRegV
import Derived.Test.YtflkalgofkpdbaaRegE
namespace Go.Proofs.Ytflkalgofkpdbaa
open Go.RowKit Go.Lib

set_option maxRecDepth 100000 in
set_option maxHeartbeats 800000 in
theorem s_meet_f1 (r s : Rgn) (v u : Value) (w : World) (c1 : regOk r.1 r.2 = false) (hv : Rg w v r) (hu : Rg w u s) :
    Calls Try.prog 28 #[v, u] w (GotG w (meetR r.1 r.2 s.1 s.2)) := by
  rw [meetR_f1 c1]
  have C1 := Lib.hid c1
  clear c1
  have HR := Lib.hid hv
  have HS := Lib.hid hu
  obtain ⟨x, rfl, hx⟩ := hv
  obtain ⟨y, rfl, hy⟩ := hu
  have HX := Lib.hid hx
  have HY := Lib.hid hy
  obtain ⟨a, c, rfl, hm⟩ := hx.shape
  obtain ⟨b, d, rfl, hm2⟩ := hy.shape
  unfold maxLen at hm hm2
  have K := Lib.hid (Bk.three w #[.int .i64 r.1, .slice a r.2.length c] #[.int .i64 s.1, .slice b s.2.length d] #[.int .i64 0, .slice none 0 0] 38 38 38)
  have B0 := Lib.hid (below3 w (.cells #[.int .i64 r.1, .slice a r.2.length c] 38) (.cells #[.int .i64 s.1, .slice b s.2.length d] 38) (.cells #[.int .i64 0, .slice none 0 0] 38))
  clear hx hy
  go_enter Try.func28, Try.ntmps28
  go_wp2_with fail
  refine (s_isreg r _ _ (HR.out.below B0.out)).mono ?_
  rintro e w1 ⟨rfl, hb⟩
  rw [C1.out]
  have B1 := Lib.hid (B0.out.trans (hb.mono B0.out.size))
  have K1 := Lib.hid (And.intro (K.out.1.below hb) (And.intro (K.out.2.1.below hb) (K.out.2.2.below hb)))
  clear hb
  obtain ⟨⟨p0, p1⟩, pf0, pf1⟩ := K1.out.2.2.two
  obtain ⟨⟨l0, l1⟩, -⟩ := K1.out.1.two
  obtain ⟨⟨m0, m1⟩, -⟩ := K1.out.2.1.two
  go_wp2
  refine bodyPost_ret (v := .tuple #[.agg #[.int .i64 0, .slice none 0 0], .bool false]) ?_ rfl ⟨⟨_, rfl, OwG.zero⟩, (B1.out.setCell (by simp; omega) _).setCell (by simp; omega) _⟩
  simp [results, Try.results28, go_sem, p0, p1]

set_option maxRecDepth 100000 in
set_option maxHeartbeats 800000 in
theorem s_meet_f2 (r s : Rgn) (v u : Value) (w : World) (c1 : regOk r.1 r.2 = true) (c2 : regOk s.1 s.2 = false) (hv : Rg w v r) (hu : Rg w u s) :
    Calls Try.prog 28 #[v, u] w (GotG w (meetR r.1 r.2 s.1 s.2)) := by
  rw [meetR_f2 c2]
  have C1 := Lib.hid c1
  have C2 := Lib.hid c2
  clear c1 c2
  have HR := Lib.hid hv
  have HS := Lib.hid hu
  obtain ⟨x, rfl, hx⟩ := hv
  obtain ⟨y, rfl, hy⟩ := hu
  have HX := Lib.hid hx
  have HY := Lib.hid hy
  obtain ⟨a, c, rfl, hm⟩ := hx.shape
  obtain ⟨b, d, rfl, hm2⟩ := hy.shape
  unfold maxLen at hm hm2
  have K := Lib.hid (Bk.three w #[.int .i64 r.1, .slice a r.2.length c] #[.int .i64 s.1, .slice b s.2.length d] #[.int .i64 0, .slice none 0 0] 38 38 38)
  have B0 := Lib.hid (below3 w (.cells #[.int .i64 r.1, .slice a r.2.length c] 38) (.cells #[.int .i64 s.1, .slice b s.2.length d] 38) (.cells #[.int .i64 0, .slice none 0 0] 38))
  clear hx hy
  go_enter Try.func28, Try.ntmps28
  go_wp2_with fail
  refine (s_isreg r _ _ (HR.out.below B0.out)).mono ?_
  rintro e w1 ⟨rfl, hb⟩
  rw [C1.out]
  have B1 := Lib.hid (B0.out.trans (hb.mono B0.out.size))
  have K1 := Lib.hid (And.intro (K.out.1.below hb) (And.intro (K.out.2.1.below hb) (K.out.2.2.below hb)))
  clear hb
  obtain ⟨⟨m0, m1⟩, -⟩ := K1.out.2.1.two
  go_wp2_with fail
  refine (s_isreg s _ _ (HS.out.below B1.out)).mono ?_
  rintro e w2 ⟨rfl, hb⟩
  rw [C2.out]
  have B2 := Lib.hid (B1.out.trans (hb.mono B1.out.size))
  have K2 := Lib.hid (And.intro (K1.out.1.below hb) (And.intro (K1.out.2.1.below hb) (K1.out.2.2.below hb)))
  clear hb m0 m1
  obtain ⟨⟨p0, p1⟩, pf0, pf1⟩ := K2.out.2.2.two
  obtain ⟨⟨l0, l1⟩, -⟩ := K2.out.1.two
  obtain ⟨⟨m0, m1⟩, -⟩ := K2.out.2.1.two
  go_wp2
  refine bodyPost_ret (v := .tuple #[.agg #[.int .i64 0, .slice none 0 0], .bool false]) ?_ rfl ⟨⟨_, rfl, OwG.zero⟩, (B2.out.setCell (by simp; omega) _).setCell (by simp; omega) _⟩
  simp [results, Try.results28, go_sem, p0, p1]

set_option maxRecDepth 100000 in
set_option maxHeartbeats 800000 in
theorem s_meet_f3 (r s : Rgn) (v u : Value) (w : World) (c1 : regOk r.1 r.2 = true) (c2 : regOk s.1 s.2 = true) (c3 : ¬ r.1 = s.1) (hv : Rg w v r) (hu : Rg w u s) :
    Calls Try.prog 28 #[v, u] w (GotG w (meetR r.1 r.2 s.1 s.2)) := by
  rw [meetR_f3 c3]
  have hne : (r.1 == s.1) = false := by rw [beq_eq_false_iff_ne]; exact c3
  have hne2 : (r.1 != s.1) = true := by rw [bne_iff_ne]; exact c3
  have C1 := Lib.hid c1
  have C2 := Lib.hid c2
  clear c1 c2 c3
  have HR := Lib.hid hv
  have HS := Lib.hid hu
  obtain ⟨x, rfl, hx⟩ := hv
  obtain ⟨y, rfl, hy⟩ := hu
  have HX := Lib.hid hx
  have HY := Lib.hid hy
  obtain ⟨a, c, rfl, hm⟩ := hx.shape
  obtain ⟨b, d, rfl, hm2⟩ := hy.shape
  unfold maxLen at hm hm2
  have K := Lib.hid (Bk.three w #[.int .i64 r.1, .slice a r.2.length c] #[.int .i64 s.1, .slice b s.2.length d] #[.int .i64 0, .slice none 0 0] 38 38 38)
  have B0 := Lib.hid (below3 w (.cells #[.int .i64 r.1, .slice a r.2.length c] 38) (.cells #[.int .i64 s.1, .slice b s.2.length d] 38) (.cells #[.int .i64 0, .slice none 0 0] 38))
  clear hx hy
  go_enter Try.func28, Try.ntmps28
  go_wp2_with fail
  refine (s_isreg r _ _ (HR.out.below B0.out)).mono ?_
  rintro e w1 ⟨rfl, hb⟩
  rw [C1.out]
  have B1 := Lib.hid (B0.out.trans (hb.mono B0.out.size))
  have K1 := Lib.hid (And.intro (K.out.1.below hb) (And.intro (K.out.2.1.below hb) (K.out.2.2.below hb)))
  clear hb
  obtain ⟨⟨m0, m1⟩, -⟩ := K1.out.2.1.two
  go_wp2_with fail
  refine (s_isreg s _ _ (HS.out.below B1.out)).mono ?_
  rintro e w2 ⟨rfl, hb⟩
  rw [C2.out]
  have B2 := Lib.hid (B1.out.trans (hb.mono B1.out.size))
  have K2 := Lib.hid (And.intro (K1.out.1.below hb) (And.intro (K1.out.2.1.below hb) (K1.out.2.2.below hb)))
  clear hb m0 m1
  obtain ⟨⟨p0, p1⟩, pf0, pf1⟩ := K2.out.2.2.two
  obtain ⟨⟨l0, l1⟩, -⟩ := K2.out.1.two
  obtain ⟨⟨m0, m1⟩, -⟩ := K2.out.2.1.two
  go_wp2
  refine bodyPost_ret (v := .tuple #[.agg #[.int .i64 0, .slice none 0 0], .bool false]) ?_ rfl ⟨⟨_, rfl, OwG.zero⟩, (B2.out.setCell (by simp; omega) _).setCell (by simp; omega) _⟩
  simp [results, Try.results28, go_sem, p0, p1]

/-- What MeetRegions' loop keeps: the boxes of the regions, of the answer, of what has been put together, and its halves. -/
def MeetI (w : World) (lo B : Nat) (n : Int) (X Y u : Value) (hs : List Hf) (wr : World) : Prop :=
  Bk wr w.heap.size #[.int .i64 n, X] 38 ∧ Bk wr (w.heap.size + 1) #[.int .i64 n, Y] 38 ∧ Bk wr (w.heap.size + 2) #[.int .i64 0, .slice none 0 0] 38 ∧ Bk wr B #[.int .i64 n, u] 38 ∧
  OwH 27 3 lo wr.heap.size wr u hs ∧ Below w.heap.size w wr ∧ w.heap.size + 3 ≤ lo ∧ lo ≤ B ∧ B < wr.heap.size
theorem MeetI.below {w : World} {lo B : Nat} {n : Int} {X Y u : Value} {hs : List Hf} {wr wr' : World} (h : MeetI w lo B n X Y u hs wr) (hb : Below wr.heap.size wr wr') : MeetI w lo B n X Y u hs wr' :=
  ⟨h.1.below hb, h.2.1.below hb, h.2.2.1.below hb, h.2.2.2.1.below hb, (h.2.2.2.2.1.below hb).mono (Nat.le_refl _) hb.size, h.2.2.2.2.2.1.trans (hb.mono h.2.2.2.2.2.1.size), h.2.2.2.2.2.2.1, h.2.2.2.2.2.2.2.1, Nat.lt_of_lt_of_le h.2.2.2.2.2.2.2.2 hb.size⟩

set_option maxRecDepth 100000 in
set_option maxHeartbeats 6400000 in
theorem s_meet_t (r s : Rgn) (v u : Value) (w : World) (c1 : regOk r.1 r.2 = true) (c2 : regOk s.1 s.2 = true) (c3 : r.1 = s.1) (hv : Rg w v r) (hu : Rg w u s) :
    Calls Try.prog 28 #[v, u] w (GotG w (meetR r.1 r.2 s.1 s.2)) := by
  obtain ⟨n, hs'⟩ := r
  obtain ⟨n', ks⟩ := s
  simp only at c3
  subst c3
  have HE := Lib.hid (meetR_e c1 c2 rfl)
  have HLL := Lib.hid (half_lens c1)
  have HLK := Lib.hid (half_lens c2)
  have H8 := Lib.hid (regOk_t c1).2.2.1
  have K8 := Lib.hid (regOk_t c2).2.2.1
  simp only at HE HLL HLK H8 K8 c1 c2 ⊢
  have hne : (n == n) = true := by simp
  have hne2 : (n != n) = false := by simp
  have C1 := Lib.hid c1
  have C2 := Lib.hid c2
  clear c1 c2
  have HR := Lib.hid hv
  have HS := Lib.hid hu
  obtain ⟨x, rfl, hx⟩ := hv
  obtain ⟨y, rfl, hy⟩ := hu
  simp only at hx hy
  have HX := Lib.hid hx
  have HY := Lib.hid hy
  obtain ⟨a, c, rfl, hm⟩ := hx.shape
  obtain ⟨b, d, rfl, hm2⟩ := hy.shape
  unfold maxLen at hm hm2
  have K := Lib.hid (Bk.three w #[.int .i64 n, .slice a hs'.length c] #[.int .i64 n, .slice b ks.length d] #[.int .i64 0, .slice none 0 0] 38 38 38)
  have B0 := Lib.hid (below3 w (.cells #[.int .i64 n, .slice a hs'.length c] 38) (.cells #[.int .i64 n, .slice b ks.length d] 38) (.cells #[.int .i64 0, .slice none 0 0] 38))
  clear hx hy
  go_enter Try.func28, Try.ntmps28
  go_wp2_with fail
  refine (s_isreg (n, hs') _ _ (HR.out.below B0.out)).mono ?_
  rintro e w1 ⟨rfl, hb⟩
  rw [C1.out]
  have B1 := Lib.hid (B0.out.trans (hb.mono B0.out.size))
  have K1 := Lib.hid (And.intro (K.out.1.below hb) (And.intro (K.out.2.1.below hb) (K.out.2.2.below hb)))
  clear hb
  obtain ⟨⟨m0, m1⟩, -⟩ := K1.out.2.1.two
  go_wp2_with fail
  refine (s_isreg (n, ks) _ _ (HS.out.below B1.out)).mono ?_
  rintro e w2 ⟨rfl, hb⟩
  rw [C2.out]
  have B2 := Lib.hid (B1.out.trans (hb.mono B1.out.size))
  have K2 := Lib.hid (And.intro (K1.out.1.below hb) (And.intro (K1.out.2.1.below hb) (K1.out.2.2.below hb)))
  clear hb m0 m1
  obtain ⟨⟨l0, l1⟩, -⟩ := K2.out.1.two
  obtain ⟨⟨m0, m1⟩, -⟩ := K2.out.2.1.two
  go_wp2_with fail
  refine (s_copy (n, hs') _ _ (HR.out.below B2.out) HLL.out (by have := H8.out; show hs'.length ≤ _; omega)).mono ?_
  rintro e w3 ⟨⟨_, rfl, z, rfl, ho⟩, hb⟩
  obtain ⟨za, zc, rfl, hzm⟩ := ho.hs.shape
  have HO := Lib.hid (show OwH 27 3 w2.heap.size w3.heap.size w3 (.slice za hs'.length zc) hs' from ho)
  have B3 := Lib.hid (B2.out.trans (hb.mono B2.out.size))
  have K3 := Lib.hid (And.intro (K2.out.1.below hb) (And.intro (K2.out.2.1.below hb) (K2.out.2.2.below hb)))
  have Z2 := Lib.hid (show w.heap.size + 3 ≤ w2.heap.size from K2.out.2.2.lt)
  have Z3 := Lib.hid hb.size
  have hb4 := below1 w3 (.cells #[.int .i64 n, .slice za hs'.length zc] 38)
  have ST := Lib.hid (show MeetI w w2.heap.size w3.heap.size n (.slice a hs'.length c) (.slice b ks.length d) (.slice za hs'.length zc) (hs' ++ newL hs' (ks.take 0)) (w3.alloc (.cells #[.int .i64 n, .slice za hs'.length zc] 38)) from
    ⟨K3.out.1.below hb4, K3.out.2.1.below hb4, K3.out.2.2.below hb4, Bk.new _ _ _, by rw [show hs' ++ newL hs' (ks.take 0) = hs' by simp [newL]]; exact (HO.out.below hb4).mono (Nat.le_refl _) hb4.size, B3.out.trans (hb4.mono B3.out.size), Z2.out, Z3.out, by simp⟩)
  clear ho hb hb4 hzm l0 l1 m0 m1
  go_wp2
  go_loopw [7] (fun i wr => ∃ (k : Nat) (u : Value), k ≤ ks.length ∧ i = .int .i64 k ∧ MeetI w w2.heap.size w3.heap.size n (.slice a hs'.length c) (.slice b ks.length d) u (hs' ++ newL hs' (ks.take k)) wr) (fun i _ => ks.length - (RowKit.intOf i).toNat)
  case atStart => exact ⟨0, _, Nat.zero_le _, rfl, ST.out⟩
  case round =>
    obtain ⟨k, u, hk, rfl, hci⟩ := hrel
    obtain ⟨W0, hW0⟩ : ∃ W0, W0 = wr := ⟨_, rfl⟩
    subst hW0
    have HC := Lib.hid hci
    clear hci
    obtain ⟨⟨-, m1⟩, -⟩ := HC.out.2.1.two
    by_cases hlt : k < ks.length
    · obtain ⟨b2, o2, y, rfl, _, hb2', hcell2, hcell2', hsy⟩ := HY.out.half k hlt rfl
      have LB2 := Lib.hid hb2'
      have HCY := Lib.hid (And.intro ((HC.out.2.2.2.2.2.1.cell (p := ⟨b2, o2 + k * 2, none⟩) hb2').trans hcell2) ((HC.out.2.2.2.2.2.1.cell (p := ⟨b2, o2 + k * 2 + 1, none⟩) hb2').trans hcell2'))
      have QY := Lib.hid (hsy.below HC.out.2.2.2.2.2.1)
      clear hsy hb2' hcell2 hcell2'
      go_wp2
      clear m1
      go_loopw [8, 9] (fun f i wr => ∃ (j : Nat) (q : Bool), j ≤ hs'.length ∧ i = .int .i64 j ∧ f = .bool q ∧ seenL (hs'.take j) ks[k] = q ∧ Below W0.heap.size W0 wr) (fun _ i _ => hs'.length - (RowKit.intOf i).toNat)
      case atStart => exact ⟨0, false, Nat.zero_le _, rfl, rfl, by simp [seenL], Below.refl _ _⟩
      case round =>
        obtain ⟨j, q, hj, rfl, rfl, hsn, hbr⟩ := hrel
        have HSN := Lib.hid hsn
        have HBr := Lib.hid hbr
        clear hsn
        obtain ⟨⟨-, l1⟩, -⟩ := (HC.out.1.below hbr).two
        obtain ⟨⟨-, m1⟩, -⟩ := (HC.out.2.1.below hbr).two
        by_cases hjt : j < hs'.length
        · cases q with
          | true =>
            go_wp2
            go_quiet (fail)
            go_wp2
            exact ⟨⟨j + 1, true, by omega, by go_num, rfl, seen_skip hjt HSN.out, below_drewN' HBr.out _⟩, by simp [RowKit.intOf]; omega⟩
          | false =>
            obtain ⟨b1, o1, x, rfl, _, hb1', hcell1, hcell1', hsx⟩ := HX.out.half j hjt rfl
            have QX := Lib.hid (hsx.below HC.out.2.2.2.2.2.1)
            have e1 := (hbr.cell (p := ⟨b1, o1 + j * 2, none⟩) (Nat.lt_of_lt_of_le hb1' HC.out.2.2.2.2.2.1.size)).trans ((HC.out.2.2.2.2.2.1.cell (p := ⟨b1, o1 + j * 2, none⟩) hb1').trans hcell1)
            have e2 := (hbr.cell (p := ⟨b1, o1 + j * 2 + 1, none⟩) (Nat.lt_of_lt_of_le hb1' HC.out.2.2.2.2.2.1.size)).trans ((HC.out.2.2.2.2.2.1.cell (p := ⟨b1, o1 + j * 2 + 1, none⟩) hb1').trans hcell1')
            have e3 := (hbr.cell (p := ⟨b2, o2 + k * 2, none⟩) (Nat.lt_of_lt_of_le LB2.out HC.out.2.2.2.2.2.1.size)).trans HCY.out.1
            have e4 := (hbr.cell (p := ⟨b2, o2 + k * 2 + 1, none⟩) (Nat.lt_of_lt_of_le LB2.out HC.out.2.2.2.2.2.1.size)).trans HCY.out.2
            have i1 : (0 : Int) ≤ (j : Int) := by omega
            have i2 : (j : Int) < (hs'.length : Int) := by omega
            have i3 : (0 : Int) ≤ (k : Int) := by omega
            have i4 : (k : Int) < (ks.length : Int) := by omega
            have hz1 : b1 < W0.heap.size := Nat.lt_of_lt_of_le hb1' HC.out.2.2.2.2.2.1.size
            have hz2 : b2 < W0.heap.size := Nat.lt_of_lt_of_le LB2.out HC.out.2.2.2.2.2.1.size
            have hz3 : w.heap.size < W0.heap.size := HC.out.1.lt
            have hz4 : w.heap.size + 1 < W0.heap.size := HC.out.2.1.lt
            obtain ⟨q, hq⟩ : ∃ q : Bool, decide (hs'[j] = ks[k]) = q := ⟨_, rfl⟩
            have HQ := Lib.hid hq
            clear hq hsx hb1' hcell1 hcell1'
            go_wp2
            go_region_held3 (fun w' => w'.cell? ⟨w.heap.size, 1, none⟩ = some (.slice (some ⟨b1, o1, none⟩) hs'.length c) ∧ w'.cell? ⟨w.heap.size + 1, 1, none⟩ = some (.slice (some ⟨b2, o2, none⟩) ks.length d) ∧ w'.cell? ⟨b1, o1 + j * 2, none⟩ = some x ∧ w'.cell? ⟨b1, o1 + j * 2 + 1, none⟩ = some (.int .i64 hs'[j].2) ∧ w'.cell? ⟨b2, o2 + k * 2, none⟩ = some y ∧ w'.cell? ⟨b2, o2 + k * 2 + 1, none⟩ = some (.int .i64 ks[k].2) ∧ Below W0.heap.size W0 w')
              (first
                | with_reducible exact keepF6 l1 m1 e1 e2 e3 e4 hbr
                | (go_split_ands; with_reducible exact keepE6 hz3 hz4 hz1 hz1 hz2 hz2 (by assumption) (by assumption) (by assumption) (by assumption) (by assumption) (by assumption) (by assumption) (by assumption))
                | go_keep)
              (first | (go_at_call 52; refine (s_samehalf hs'[j] ks[k] _ _ _ ⟨x, rfl, QX.out.below HBr.out.drew⟩ ⟨y, rfl, QY.out.below HBr.out.drew⟩).mono ?_; rintro e w5 ⟨rfl, hb1⟩; rw [HQ.out]))
            rename_i hH
            have HB1 := Lib.hid hH.2.2.2.2.2.2
            clear hH hbr l1 m1 e1 e2 e3 e4
            go_wp2
            exact ⟨⟨j + 1, q, by omega, by go_num, rfl, (seen_ask hjt HSN.out).trans HQ.out, HB1.out⟩, by simp [RowKit.intOf]; omega⟩
        · obtain rfl : j = hs'.length := by omega
          have HSA := Lib.hid (show seenL hs' ks[k] = q by have h := HSN.out; rw [List.take_length] at h; exact h)
          cases q with
          | true =>
            have HN := Lib.hid (new_same hlt HSA.out)
            clear hbr
            go_wp2
            exact ⟨⟨k + 1, _, by omega, by go_num, by rw [HN.out]; exact HC.out.below HBr.out⟩, by simp [RowKit.intOf]; omega⟩
          | false =>
            have HN := Lib.hid (new_more hlt HSA.out)
            have HC2 := Lib.hid (HC.out.below hbr)
            have QY2 := Lib.hid (QY.out.below hbr)
            have HCY2 := Lib.hid (And.intro ((hbr.cell (p := ⟨b2, o2 + k * 2, none⟩) (Nat.lt_of_lt_of_le LB2.out HC.out.2.2.2.2.2.1.size)).trans HCY.out.1) ((hbr.cell (p := ⟨b2, o2 + k * 2 + 1, none⟩) (Nat.lt_of_lt_of_le LB2.out HC.out.2.2.2.2.2.1.size)).trans HCY.out.2))
            have HLB := Lib.hid (show b2 < w.heap.size from LB2.out)
            have HPk := Lib.hid (HLK.out k hlt)
            obtain ⟨M, hM⟩ : ∃ M, (hs' ++ newL hs' (ks.take k)).length = M := ⟨_, rfl⟩
            have hM16 : M ≤ 16 := hM ▸ new_len8 H8.out K8.out
            obtain ⟨ua, uc, rfl, hum⟩ := HC2.out.2.2.2.2.1.hs.shape
            rw [hM] at HC2
            have HM := Lib.hid hM
            clear hbr l1 m1 hM hum
            obtain ⟨⟨-, l1⟩, -⟩ := HC2.out.2.2.2.1.two
            obtain ⟨⟨-, m1⟩, -⟩ := HC2.out.2.1.two
            obtain ⟨⟨-, lr⟩, -⟩ := HC2.out.1.two
            obtain ⟨hcell, hcell1⟩ := HCY2.out
            have i3 : (0 : Int) ≤ (k : Int) := by omega
            have i4 : (k : Int) < (ks.length : Int) := by omega
            go_wp2
            refine T_begin (z := fun k => 9 < k) (S := fun (w' : World) => w'.cell? ⟨w3.heap.size, 1, none⟩ = some (.slice ua M uc) ∧ w'.cell? ⟨w.heap.size + 1, 1, none⟩ = some (.slice (some ⟨b2, o2, none⟩) ks.length d) ∧ w'.cell? ⟨b2, o2 + k * 2, none⟩ = some y ∧ w'.cell? ⟨b2, o2 + k * 2 + 1, none⟩ = some (.int .i64 ks[k].2)) (by kernel_rfl) ?_
            show wpAnyT _ _ _ _ _ _ 12 _ _ _
            have hS0 := Lib.hid (show (fun (w' : World) => w'.cell? ⟨w3.heap.size, 1, none⟩ = some (.slice ua M uc) ∧ w'.cell? ⟨w.heap.size + 1, 1, none⟩ = some (.slice (some ⟨b2, o2, none⟩) ks.length d) ∧ w'.cell? ⟨b2, o2 + k * 2, none⟩ = some y ∧ w'.cell? ⟨b2, o2 + k * 2 + 1, none⟩ = some (.int .i64 ks[k].2)) _ from ⟨l1, m1, hcell, hcell1⟩)
            refine T_take (i := 0) (v := .pointer (some ⟨w3.heap.size, 1, none⟩)) rfl (by kernel_rfl) (by kernel_rfl) (by kernel_rfl) (by kernel_rfl) (fun _ _ _ h => h) hS0.out rfl (fun w' hS' => by (try dsimp only at hS'); go_simp) ?_
            refine T_take (i := 1) (v := .slice ua M uc) rfl (by kernel_rfl) (by kernel_rfl) (by kernel_rfl) (by kernel_rfl) (fun _ _ _ h => h) hS0.out rfl (fun w' hS' => by (try dsimp only at hS'); go_simp) ?_
            refine T_take (i := 2) (v := .pointer (some ⟨w.heap.size + 1, 1, none⟩)) rfl (by kernel_rfl) (by kernel_rfl) (by kernel_rfl) (by kernel_rfl) (fun _ _ _ h => h) hS0.out rfl (fun w' hS' => by (try dsimp only at hS'); go_simp) ?_
            refine T_take (i := 3) (v := .slice (some ⟨b2, o2, none⟩) ks.length d) rfl (by kernel_rfl) (by kernel_rfl) (by kernel_rfl) (by kernel_rfl) (fun _ _ _ h => h) hS0.out rfl (fun w' hS' => by (try dsimp only at hS'); go_simp) ?_
            refine T_take (i := 4) (v := .int .i64 k) rfl (by kernel_rfl) (by kernel_rfl) (by kernel_rfl) (by kernel_rfl) (fun _ _ _ h => h) hS0.out rfl (fun w' hS' => by (try dsimp only at hS'); go_simp) ?_
            refine T_take (i := 5) (v := .pointer (some ⟨b2, o2 + k * 2, none⟩)) rfl (by kernel_rfl) (by kernel_rfl) (by kernel_rfl) (by kernel_rfl) (fun _ _ _ h => h) hS0.out rfl (fun w' hS' => by (try dsimp only at hS'); go_simp) ?_
            refine T_take (i := 6) (v := .agg #[y, .int .i64 ks[k].2]) rfl (by kernel_rfl) (by kernel_rfl) (by kernel_rfl) (by kernel_rfl) (fun _ _ _ h => h) hS0.out rfl (fun w' hS' => by (try dsimp only at hS'); go_simp) ?_
            refine T_step (i := 7) rfl (by kernel_rfl) rfl rfl ?_
            intro K hK
            go_simp
            refine (s_one ks[k] _ _ ⟨y, rfl, QY2.out.below (Below.refl _ _).drew⟩ HPk.out.1 HPk.out.2).mono ?_
            rintro e w6 ⟨⟨_, rfl, z, rfl, ho⟩, hb⟩
            have hb : Below wr.heap.size wr w6 := (Below.refl _ _).drew.trans hb
            obtain ⟨ra, rc, rfl, _⟩ := ho.shape1
            rw [intVals_len] at ho ⊢
            have HO6 := Lib.hid (show OwnV 3 wr.heap.size w6.heap.size w6 _ _ from ho)
            have HB := Lib.hid hb
            have s0 := hS0.out
            have s1 := show (fun (w' : World) => w'.cell? ⟨w3.heap.size, 1, none⟩ = some (.slice ua M uc) ∧ w'.cell? ⟨w.heap.size + 1, 1, none⟩ = some (.slice (some ⟨b2, o2, none⟩) ks.length d) ∧ w'.cell? ⟨b2, o2 + k * 2, none⟩ = some y ∧ w'.cell? ⟨b2, o2 + k * 2 + 1, none⟩ = some (.int .i64 ks[k].2)) w6 from ⟨(hb.cell (p := ⟨w3.heap.size, 1, none⟩) (by have h1 := HC2.out.2.2.2.2.2.2; show w3.heap.size < wr.heap.size; omega)).trans s0.1, (hb.cell (p := ⟨w.heap.size + 1, 1, none⟩) (by have h1 := HC2.out.2.2.2.2.2.2; show w.heap.size + 1 < wr.heap.size; omega)).trans s0.2.1, (hb.cell (p := ⟨b2, o2 + k * 2, none⟩) (by have h1 := HC2.out.2.2.2.2.2.2; have h2 := HLB.out; show b2 < wr.heap.size; omega)).trans s0.2.2.1, (hb.cell (p := ⟨b2, o2 + k * 2 + 1, none⟩) (by have h1 := HC2.out.2.2.2.2.2.2; have h2 := HLB.out; show b2 < wr.heap.size; omega)).trans s0.2.2.2⟩
            clear ho hb l1 m1 hcell hcell1 hS0 s0
            refine hK.out _ _ s1 ?_
            clear hK K
            refine T_step (i := 8) rfl (by kernel_rfl) rfl rfl ?_
            intro K hK
            go_simp
            have hb2 := below1 w6 (.cells #[.slice ra ks[k].1.length rc, .int .i64 ks[k].2] 27)
            have s2 := show (fun (w' : World) => w'.cell? ⟨w3.heap.size, 1, none⟩ = some (.slice ua M uc) ∧ w'.cell? ⟨w.heap.size + 1, 1, none⟩ = some (.slice (some ⟨b2, o2, none⟩) ks.length d) ∧ w'.cell? ⟨b2, o2 + k * 2, none⟩ = some y ∧ w'.cell? ⟨b2, o2 + k * 2 + 1, none⟩ = some (.int .i64 ks[k].2)) (w6.alloc (.cells #[.slice ra ks[k].1.length rc, .int .i64 ks[k].2] 27)) from ⟨(hb2.cell (p := ⟨w3.heap.size, 1, none⟩) (by have h1 := HC2.out.2.2.2.2.2.2; have h3 := HB.out.size; show w3.heap.size < w6.heap.size; omega)).trans s1.1, (hb2.cell (p := ⟨w.heap.size + 1, 1, none⟩) (by have h1 := HC2.out.2.2.2.2.2.2; have h3 := HB.out.size; show w.heap.size + 1 < w6.heap.size; omega)).trans s1.2.1, (hb2.cell (p := ⟨b2, o2 + k * 2, none⟩) (by have h1 := HC2.out.2.2.2.2.2.2; have h2 := HLB.out; have h3 := HB.out.size; show b2 < w6.heap.size; omega)).trans s1.2.2.1, (hb2.cell (p := ⟨b2, o2 + k * 2 + 1, none⟩) (by have h1 := HC2.out.2.2.2.2.2.2; have h2 := HLB.out; have h3 := HB.out.size; show b2 < w6.heap.size; omega)).trans s1.2.2.2⟩
            clear s1
            have HB3 := Lib.hid (show Below wr.heap.size wr (w6.alloc (.cells #[.slice ra ks[k].1.length rc, .int .i64 ks[k].2] 27)) from HB.out.trans (hb2.mono HB.out.size))
            have HO2 := Lib.hid (HO6.out.below hb2)
            have HNN := Lib.hid (heap_alloc_new w6 (.cells #[.slice ra ks[k].1.length rc, .int .i64 ks[k].2] 27))
            have HR2 := Lib.hid (HC2.out.2.2.2.2.1.below HB3.out)
            have HZ := Lib.hid hb2.size
            have HKB := Lib.hid (HC2.out.2.2.2.1.below HB3.out)
            clear hb2 HO6
            refine hK.out _ _ s2 ?_
            clear hK K
            refine T_step (i := 9) rfl (by kernel_rfl) rfl rfl ?_
            intro K hK
            refine wp_app_half2 _ _ (by rfl) w2.heap.size wr.heap.size _ _ (hs' ++ newL hs' (ks.take k)) ks[k] (by rfl) HR2.out (HO2.out.mono (Nat.le_refl _) HZ.out) w6.heap.size (by rfl) HNN.out (by have := HM.out; omega) (by have := HC2.out.2.2.2.2.2.2; omega) HB3.out.size ?_
            intro g cap w7 ho hk2 hg2
            rw [HM.out, List.append_assoc, ← HN.out] at ho
            rw [HM.out]
            have hne := HR2.out.ne HKB.out (by decide)
            have s3 := show (fun (w' : World) => w'.cell? ⟨w3.heap.size, 1, none⟩ = some (.slice ua M uc) ∧ w'.cell? ⟨w.heap.size + 1, 1, none⟩ = some (.slice (some ⟨b2, o2, none⟩) ks.length d) ∧ w'.cell? ⟨b2, o2 + k * 2, none⟩ = some y ∧ w'.cell? ⟨b2, o2 + k * 2 + 1, none⟩ = some (.int .i64 ks[k].2)) w7 from ⟨(hg2.cell_far ⟨w3.heap.size, 1, none⟩ (by have h1 := HC2.out.2.2.2.2.2.2; have h3 := HB3.out.size; show w3.heap.size < _; omega) hne).trans s2.1, (hk2.cellAt (p := ⟨w.heap.size + 1, 1, none⟩) (by have h1 := HC2.out.2.2.2.2.2.2; have h3 := HB3.out.size; show w.heap.size + 1 < _; omega) (.inl (by have h1 := HC2.out.2.2.2.2.2.2; show w.heap.size + 1 < _; omega))).trans s2.2.1, (hk2.cellAt (p := ⟨b2, o2 + k * 2, none⟩) (by have h1 := HC2.out.2.2.2.2.2.2; have h2 := HLB.out; have h3 := HB3.out.size; show b2 < _; omega) (.inl (by have h1 := HC2.out.2.2.2.2.2.2; have h2 := HLB.out; show b2 < _; omega))).trans s2.2.2.1, (hk2.cellAt (p := ⟨b2, o2 + k * 2 + 1, none⟩) (by have h1 := HC2.out.2.2.2.2.2.2; have h2 := HLB.out; have h3 := HB3.out.size; show b2 < _; omega) (.inl (by have h1 := HC2.out.2.2.2.2.2.2; have h2 := HLB.out; show b2 < _; omega))).trans s2.2.2.2⟩
            have P1 := Lib.hid ((HC2.out.1.below HB3.out).kept hk2 (.inl (by have := HC2.out.2.2.2.2.2.2; omega)))
            have P2 := Lib.hid ((HC2.out.2.1.below HB3.out).kept hk2 (.inl (by have := HC2.out.2.2.2.2.2.2; omega)))
            have P3 := Lib.hid ((HC2.out.2.2.1.below HB3.out).kept hk2 (.inl (by have := HC2.out.2.2.2.2.2.2; omega)))
            have P4 := Lib.hid (HKB.out.grown hg2 hne)
            have P6 := Lib.hid (HC2.out.2.2.2.2.2.1.trans ((HB3.out.mono HC2.out.2.2.2.2.2.1.size).trans (hk2.below (by have := HC2.out.2.2.2.2.2.2; omega) (by have := HB3.out.size; have := HC2.out.2.2.2.2.2.1.size; omega))))
            have P5 := Lib.hid ho
            have P7 := Lib.hid (Nat.le_trans HB3.out.size hk2.size)
            clear ho hk2 hg2 hne s2 HR2 HO2 HNN HZ HKB
            refine hK.out _ _ s3 ?_
            clear hK K s3
            refine T_anytake (i := 10) (v := .pointer (some ⟨w3.heap.size, 1, none⟩)) rfl (by kernel_rfl) (by kernel_rfl) (by kernel_rfl) rfl (fun _ _ _ h => h) rfl (fun w' => by go_simp) ?_
            obtain ⟨⟨-, q0⟩, -, q1⟩ := P4.out.two
            refine T_last (i := 11) rfl (by kernel_rfl) (by kernel_rfl) rfl rfl ?_
            go_simp
            go_wp2
            have hz := HC2.out.2.2.2.2.2.2
            have hz7 := P7.out
            exact ⟨⟨k + 1, _, by omega, by go_num, P1.out.other (by show w3.heap.size ≠ _; omega) _, P2.out.other (by show w3.heap.size ≠ _; omega) _, P3.out.other (by show w3.heap.size ≠ _; omega) _, P4.out.set1 _, (P5.out.other (p := ⟨w3.heap.size, 1, none⟩) P4.out (by decide) (by decide) _).mono (Nat.le_refl _) (by simp [World.setCell]), P6.out.setCell (by show _ ≤ w3.heap.size; omega) _, hz.1, hz.2.1, by simp [World.setCell]; omega⟩, by simp [RowKit.intOf]; omega⟩
    · obtain rfl : k = ks.length := by omega
      have HC1 := Lib.hid (show MeetI w w2.heap.size w3.heap.size n (.slice a hs'.length c) (.slice b ks.length d) u (meetL hs' ks) W0 by have h := HC.out; rw [List.take_length] at h; exact h)
      obtain ⟨ua, uc, rfl, hum⟩ := HC1.out.2.2.2.2.1.hs.shape
      obtain ⟨⟨l0, l1⟩, -⟩ := HC1.out.2.2.2.1.two
      have hz := HC1.out.2.2.2.2.2.2
      by_cases cr : regOk n (meetL hs' ks) = true
      · have CR := Lib.hid cr
        have HE2 := Lib.hid (HE.out.trans (if_pos cr))
        clear cr
        go_wp2_with fail
        refine (s_isreg (n, meetL hs' ks) _ _ ⟨_, rfl, HC1.out.2.2.2.2.1.hs⟩).mono ?_
        rintro e w5 ⟨rfl, hb⟩
        rw [show regOk (n, meetL hs' ks).1 (n, meetL hs' ks).2 = true from CR.out]
        have HC5 := Lib.hid (HC1.out.below hb)
        clear hb l0 l1 m1
        obtain ⟨⟨p0, p1⟩, pf0, pf1⟩ := HC5.out.2.2.1.two
        obtain ⟨⟨l0, l1⟩, -⟩ := HC5.out.2.2.2.1.two
        go_wp2
        refine bodyPost_ret (v := .tuple #[.agg #[.int .i64 n, .slice ua (meetL hs' ks).length uc], .bool true]) ?_ rfl (got_mk (r := ((n, meetL hs' ks), true)) HE2.out ⟨⟨_, rfl, _, rfl, ?_⟩, (HC5.out.2.2.2.2.2.1.setCell (by show _ ≤ w.heap.size + 2; omega) _).setCell (by show _ ≤ w.heap.size + 2; omega) _⟩)
        · simp [results, Try.results28, go_sem, p0, p1]
        · exact (HC5.out.2.2.2.2.1.kept (((Kept.refl (w.heap.size + 2) (w.heap.size + 3) w5).setCell (p := ⟨w.heap.size + 2, 0, none⟩) (Nat.le_refl _) (Nat.lt_succ_self _) _).setCell (p := ⟨w.heap.size + 2, 1, none⟩) (Nat.le_refl _) (Nat.lt_succ_self _) _) (.inr hz.1)).mono (by omega) (by simp [World.setCell])
      · have CR := Lib.hid (bool_f cr)
        have HE2 := Lib.hid (HE.out.trans (if_neg cr))
        clear cr
        go_wp2_with fail
        refine (s_isreg (n, meetL hs' ks) _ _ ⟨_, rfl, HC1.out.2.2.2.2.1.hs⟩).mono ?_
        rintro e w5 ⟨rfl, hb⟩
        rw [show regOk (n, meetL hs' ks).1 (n, meetL hs' ks).2 = false from CR.out]
        have HC5 := Lib.hid (HC1.out.below hb)
        clear hb l0 l1 m1
        obtain ⟨⟨p0, p1⟩, pf0, pf1⟩ := HC5.out.2.2.1.two
        go_wp2
        refine bodyPost_ret (v := .tuple #[.agg #[.int .i64 0, .slice none 0 0], .bool false]) ?_ rfl (got_mk (r := ((0, []), false)) HE2.out ⟨⟨_, rfl, OwG.zero⟩, (HC5.out.2.2.2.2.2.1.setCell (by show _ ≤ w.heap.size + 2; omega) _).setCell (by show _ ≤ w.heap.size + 2; omega) _⟩)
        simp [results, Try.results28, go_sem, p0, p1]

theorem s_meet (r s : Rgn) (v u : Value) (w : World) (hv : Rg w v r) (hu : Rg w u s) :
    Calls Try.prog 28 #[v, u] w (GotG w (meetR r.1 r.2 s.1 s.2)) := by
  by_cases c1 : regOk r.1 r.2 = true
  · by_cases c2 : regOk s.1 s.2 = true
    · by_cases c3 : r.1 = s.1
      · exact s_meet_t r s v u w c1 c2 c3 hv hu
      · exact s_meet_f3 r s v u w c1 c2 c3 hv hu
    · exact s_meet_f2 r s v u w c1 (bool_f c2) hv hu
  · exact s_meet_f1 r s v u w (bool_f c1) hv hu
end Go.Proofs.Ytflkalgofkpdbaa
