/- The program's MeetRegions. -/
import Derived.Test.YtflkalgofkpdbaaFxE
namespace Go.Proofs.Ytflkalgofkpdbaa
open Go.RowKit Go.Lib
theorem OwF.grown {T : TypeId} {lo hi : Nat} {w w' : World} {v : Value} {hs : List Hf} {r : Option Nat} (h : OwF T lo hi w v hs) (hg : w.grownBy w' r) (hne : ∀ b, v.ownBlock = some b → some b ≠ r) : OwF T lo hi w' v hs := by
  obtain ⟨⟨h1, h2⟩, h3⟩ := h
  refine ⟨⟨h1, ?_⟩, h3⟩
  rcases h2 with h2 | ⟨g, cap, cur, rfl, hg', hh, hr⟩
  · exact .inl h2
  · exact .inr ⟨g, cap, cur, rfl, hg', by rw [hg.block g (lt_of_heap hh) (hne g rfl)]; exact hh, hr⟩
/-- append(list, fixed half) at a plain list of operations. -/
theorem list_app_fx {ops : Array Oper} {rest : List Oper} {o : Oper} {a : Act} {w : World} {Q : Exit → Act → World → Prop} (hgd : o.guard = none) (s x : Operand)
    (ho : o.op = .call { callee := .builtin .append, args := #[s, x], argTypes := #[66, 66] })
    (lo hi : Nat) (v : Value) (hs : List Hf) (h : Hf) (hv : a.eval s = v) (hown : OwF 69 lo hi w v hs)
    (H : Nat) (hx : a.eval x = .slice (some ⟨H, 0, none⟩) 1 1) (hnew : w.heap[H]? = some (.cells #[.int .i64 (h.1.getD 0 0), .int .i64 (h.1.getD 1 0), .int .i64 (h.1.getD 2 0), .int .i64 h.2] 69 (0, 0)))
    (hn : hs.length ≤ 1099511627776) (hlo : lo ≤ w.heap.size)
    (k : ∀ g cap w', OwF 69 lo w'.heap.size w' (.slice (some ⟨g, 0, none⟩) (hs.length + 1) cap) (hs ++ [h]) → Below lo w w' → w.grownBy w' v.ownBlock → (v.ownBlock = some g ∨ g = w.heap.size) → wpList Try.prog ops Q rest (a.put o.dst (.slice (some ⟨g, 0, none⟩) (hs.length + 1) cap)) w') :
    wpList Try.prog ops Q (o :: rest) a w := by
  obtain ⟨i0, hi', hz0, hz1, hz2⟩ := info_parts info_fx
  refine wpList_append_lies w hgd s x 66 ho lo 69 i0 _ 4 32 Try.underlying66 hi' hz0 hz1 hz2 rfl (by omega) v hs.length (flatF hs) hv hown.1 ⟨H, 0, none⟩ 1 1 (flatF [h]) hx rfl (World.news_of_block (cs := #[.int .i64 (h.1.getD 0 0), .int .i64 (h.1.getD 1 0), .int .i64 (h.1.getD 2 0), .int .i64 h.2]) hnew) (flatF_one [h]) (by omega) (by unfold maxLen; omega) (by omega) hlo w.heap.size rfl ?_
  intro g cap w' k1 k2 k3 k4
  refine k g cap w' ⟨?_, fun b hb => ?_⟩ ((Below.refl lo w).grown k2 hlo fun j hj => (hown.1.lt j hj).1) k2 k3
  · rw [flatF_append, List.length_append]; exact k1
  · exact (k1.lt b hb).2
theorem meet_lens {n : Int} {hs ks : List Hf} (h1 : regOk n hs = true) (h2 : regOk n ks = true) (m : Nat) (k : Nat) (hk : k < (hs ++ newL hs (ks.take m)).length) : ((hs ++ newL hs (ks.take m))[k].1.length : Int) = n := by
  have hm := List.getElem_mem hk
  generalize (hs ++ newL hs (ks.take m))[k] = z at hm
  have key : z ∈ hs ∨ z ∈ ks := by
    rcases List.mem_append.1 hm with h | h
    · exact .inl h
    · exact .inr (List.mem_of_mem_take (List.mem_filter.1 h).1)
  rcases key with h | h
  · obtain ⟨i, hi, rfl⟩ := List.mem_iff_getElem.1 h
    exact (halfOk_t ((regOk_t h1).2.2.2 i hi)).2.2.1
  · obtain ⟨i, hi, rfl⟩ := List.mem_iff_getElem.1 h
    exact (halfOk_t ((regOk_t h2).2.2.2 i hi)).2.2.1

set_option maxRecDepth 100000 in
set_option maxHeartbeats 800000 in
theorem i_meet_f1 (r s : Rgn) (v u : Value) (w : World) (c1 : regOk r.1 r.2 = false) (hv : Rg w v r) (hu : Rg w u s) :
    Calls Try.prog 29 #[v, u] w (GotG w (meetR r.1 r.2 s.1 s.2)) := by
  rw [meetR_f1 c1]
  have C1 := Lib.hid c1
  clear c1
  have HR := Lib.hid hv
  have HS := Lib.hid hu
  obtain ⟨x, rfl, hx⟩ := hv
  obtain ⟨y, rfl, hy⟩ := hu
  have K := Lib.hid (Bk.three w #[.int .i64 r.1, x] #[.int .i64 s.1, y] #[.int .i64 0, .slice none 0 0] 38 38 38)
  have B0 := Lib.hid (below3 w (.cells #[.int .i64 r.1, x] 38) (.cells #[.int .i64 s.1, y] 38) (.cells #[.int .i64 0, .slice none 0 0] 38))
  obtain ⟨a, c, rfl, hm⟩ := hx.shape
  obtain ⟨b, d, rfl, hm2⟩ := hy.shape
  unfold maxLen at hm hm2
  clear hx hy
  go_enter Try.func29, Try.ntmps29
  go_wp2_with fail
  refine (i_isreg r _ _ (HR.out.below B0.out)).mono ?_
  rintro e w1 ⟨rfl, hb⟩
  rw [C1.out]
  have B1 := Lib.hid (B0.out.trans (hb.mono B0.out.size))
  have K1 := Lib.hid (And.intro (K.out.1.below hb) (And.intro (K.out.2.1.below hb) (K.out.2.2.below hb)))
  clear hb
  obtain ⟨⟨p0, p1⟩, pf0, pf1⟩ := K1.out.2.2.two
  obtain ⟨⟨l0, l1⟩, -⟩ := K1.out.1.two
  obtain ⟨⟨m0, m1⟩, -⟩ := K1.out.2.1.two
  go_wp2
  refine bodyPost_ret (v := .tuple #[.agg #[.int .i64 0, .slice none 0 0], .bool false]) ?_ rfl ⟨⟨_, rfl, OwG.zero⟩, (B1.out.setCell (by simp; omega) _).setCell (by simp; omega) _⟩
  simp [results, Try.results29, go_sem, p0, p1]

set_option maxRecDepth 100000 in
set_option maxHeartbeats 800000 in
theorem i_meet_f2 (r s : Rgn) (v u : Value) (w : World) (c1 : regOk r.1 r.2 = true) (c2 : regOk s.1 s.2 = false) (hv : Rg w v r) (hu : Rg w u s) :
    Calls Try.prog 29 #[v, u] w (GotG w (meetR r.1 r.2 s.1 s.2)) := by
  rw [meetR_f2 c2]
  have C1 := Lib.hid c1
  have C2 := Lib.hid c2
  clear c1 c2
  have HR := Lib.hid hv
  have HS := Lib.hid hu
  obtain ⟨x, rfl, hx⟩ := hv
  obtain ⟨y, rfl, hy⟩ := hu
  have K := Lib.hid (Bk.three w #[.int .i64 r.1, x] #[.int .i64 s.1, y] #[.int .i64 0, .slice none 0 0] 38 38 38)
  have B0 := Lib.hid (below3 w (.cells #[.int .i64 r.1, x] 38) (.cells #[.int .i64 s.1, y] 38) (.cells #[.int .i64 0, .slice none 0 0] 38))
  obtain ⟨a, c, rfl, hm⟩ := hx.shape
  obtain ⟨b, d, rfl, hm2⟩ := hy.shape
  unfold maxLen at hm hm2
  clear hx hy
  go_enter Try.func29, Try.ntmps29
  go_wp2_with fail
  refine (i_isreg r _ _ (HR.out.below B0.out)).mono ?_
  rintro e w1 ⟨rfl, hb⟩
  rw [C1.out]
  have B1 := Lib.hid (B0.out.trans (hb.mono B0.out.size))
  have K1 := Lib.hid (And.intro (K.out.1.below hb) (And.intro (K.out.2.1.below hb) (K.out.2.2.below hb)))
  clear hb
  obtain ⟨⟨m0, m1⟩, -⟩ := K1.out.2.1.two
  go_wp2_with fail
  refine (i_isreg s _ _ (HS.out.below B1.out)).mono ?_
  rintro e w2 ⟨rfl, hb⟩
  rw [C2.out]
  have B2 := Lib.hid (B1.out.trans (hb.mono B1.out.size))
  have K2 := Lib.hid (And.intro (K1.out.1.below hb) (And.intro (K1.out.2.1.below hb) (K1.out.2.2.below hb)))
  clear hb m0 m1
  obtain ⟨⟨p0, p1⟩, pf0, pf1⟩ := K2.out.2.2.two
  obtain ⟨⟨l0, l1⟩, -⟩ := K2.out.1.two
  obtain ⟨⟨m0, m1⟩, -⟩ := K2.out.2.1.two
  go_wp2
  refine bodyPost_ret (v := .tuple #[.agg #[.int .i64 0, .slice none 0 0], .bool false]) ?_ rfl ⟨⟨_, rfl, OwG.zero⟩, (B2.out.setCell (by simp; omega) _).setCell (by simp; omega) _⟩
  simp [results, Try.results29, go_sem, p0, p1]

set_option maxRecDepth 100000 in
set_option maxHeartbeats 800000 in
theorem i_meet_f3 (r s : Rgn) (v u : Value) (w : World) (c1 : regOk r.1 r.2 = true) (c2 : regOk s.1 s.2 = true) (c3 : ¬ r.1 = s.1) (hv : Rg w v r) (hu : Rg w u s) :
    Calls Try.prog 29 #[v, u] w (GotG w (meetR r.1 r.2 s.1 s.2)) := by
  rw [meetR_f3 c3]
  have hne : (r.1 == s.1) = false := by rw [beq_eq_false_iff_ne]; exact c3
  have hne2 : (r.1 != s.1) = true := by rw [bne_iff_ne]; exact c3
  have C1 := Lib.hid c1
  have C2 := Lib.hid c2
  clear c1 c2 c3
  have HR := Lib.hid hv
  have HS := Lib.hid hu
  obtain ⟨x, rfl, hx⟩ := hv
  obtain ⟨y, rfl, hy⟩ := hu
  have K := Lib.hid (Bk.three w #[.int .i64 r.1, x] #[.int .i64 s.1, y] #[.int .i64 0, .slice none 0 0] 38 38 38)
  have B0 := Lib.hid (below3 w (.cells #[.int .i64 r.1, x] 38) (.cells #[.int .i64 s.1, y] 38) (.cells #[.int .i64 0, .slice none 0 0] 38))
  obtain ⟨a, c, rfl, hm⟩ := hx.shape
  obtain ⟨b, d, rfl, hm2⟩ := hy.shape
  unfold maxLen at hm hm2
  clear hx hy
  go_enter Try.func29, Try.ntmps29
  go_wp2_with fail
  refine (i_isreg r _ _ (HR.out.below B0.out)).mono ?_
  rintro e w1 ⟨rfl, hb⟩
  rw [C1.out]
  have B1 := Lib.hid (B0.out.trans (hb.mono B0.out.size))
  have K1 := Lib.hid (And.intro (K.out.1.below hb) (And.intro (K.out.2.1.below hb) (K.out.2.2.below hb)))
  clear hb
  obtain ⟨⟨m0, m1⟩, -⟩ := K1.out.2.1.two
  go_wp2_with fail
  refine (i_isreg s _ _ (HS.out.below B1.out)).mono ?_
  rintro e w2 ⟨rfl, hb⟩
  rw [C2.out]
  have B2 := Lib.hid (B1.out.trans (hb.mono B1.out.size))
  have K2 := Lib.hid (And.intro (K1.out.1.below hb) (And.intro (K1.out.2.1.below hb) (K1.out.2.2.below hb)))
  clear hb m0 m1
  obtain ⟨⟨p0, p1⟩, pf0, pf1⟩ := K2.out.2.2.two
  obtain ⟨⟨l0, l1⟩, -⟩ := K2.out.1.two
  obtain ⟨⟨m0, m1⟩, -⟩ := K2.out.2.1.two
  go_wp2
  refine bodyPost_ret (v := .tuple #[.agg #[.int .i64 0, .slice none 0 0], .bool false]) ?_ rfl ⟨⟨_, rfl, OwG.zero⟩, (B2.out.setCell (by simp; omega) _).setCell (by simp; omega) _⟩
  simp [results, Try.results29, go_sem, p0, p1]

/-- What MeetRegions' loop keeps: the boxes of the first region and of the answer, three lists of halves of fixed length. -/
def AllI (w w2 w3 w4 w5 : World) (n : Int) (X F L V : Value) (hs ks ms : List Hf) (wr : World) : Prop :=
  Bk wr w.heap.size #[.int .i64 n, X] 38 ∧ Bk wr (w.heap.size + 2) #[.int .i64 0, .slice none 0 0] 38 ∧ OwF 69 w2.heap.size w3.heap.size wr F hs ∧ OwF 69 w4.heap.size w5.heap.size wr L ks ∧
  OwF 69 w3.heap.size wr.heap.size wr V ms ∧ (∀ b, V.ownBlock = some b → b < w4.heap.size ∨ w5.heap.size ≤ b) ∧ Below w.heap.size w wr ∧ w5.heap.size ≤ wr.heap.size
theorem AllI.below {w w2 w3 w4 w5 : World} {n : Int} {X F L V : Value} {hs ks ms : List Hf} {wr wr' : World} (h : AllI w w2 w3 w4 w5 n X F L V hs ks ms wr) (hb : Below wr.heap.size wr wr') : AllI w w2 w3 w4 w5 n X F L V hs ks ms wr' :=
  ⟨h.1.below hb, h.2.1.below hb, h.2.2.1.below hb, h.2.2.2.1.below hb, (h.2.2.2.2.1.below hb).mono (Nat.le_refl _) hb.size, h.2.2.2.2.2.1, h.2.2.2.2.2.2.1.trans (hb.mono h.2.2.2.2.2.2.1.size), Nat.le_trans h.2.2.2.2.2.2.2 hb.size⟩

set_option maxRecDepth 100000 in
set_option maxHeartbeats 6400000 in
theorem i_meet_t (r s : Rgn) (v u : Value) (w : World) (c1 : regOk r.1 r.2 = true) (c2 : regOk s.1 s.2 = true) (c3 : r.1 = s.1) (hv : Rg w v r) (hu : Rg w u s) :
    Calls Try.prog 29 #[v, u] w (GotG w (meetR r.1 r.2 s.1 s.2)) := by
  obtain ⟨n, hs'⟩ := r
  obtain ⟨n', ks⟩ := s
  simp only at c3
  subst c3
  have HE := Lib.hid (meetR_e c1 c2 rfl)
  simp only at HE c1 c2 ⊢
  have R8 := Lib.hid (regOk_t c1)
  have Q8 := Lib.hid (regOk_t c2)
  have hne : (n == n) = true := by simp
  have hne2 : (n != n) = false := by simp
  have C1 := Lib.hid c1
  have C2 := Lib.hid c2
  clear c1 c2
  have HR := Lib.hid hv
  have HS := Lib.hid hu
  obtain ⟨x, rfl, hx⟩ := hv
  obtain ⟨y, rfl, hy⟩ := hu
  simp only at hx hy
  have K := Lib.hid (Bk.three w #[.int .i64 n, x] #[.int .i64 n, y] #[.int .i64 0, .slice none 0 0] 38 38 38)
  have B0 := Lib.hid (below3 w (.cells #[.int .i64 n, x] 38) (.cells #[.int .i64 n, y] 38) (.cells #[.int .i64 0, .slice none 0 0] 38))
  obtain ⟨a, c, rfl, hm⟩ := hx.shape
  obtain ⟨b, d, rfl, hm2⟩ := hy.shape
  unfold maxLen at hm hm2
  clear hx hy
  go_enter Try.func29, Try.ntmps29
  go_wp2_with fail
  refine (i_isreg (n, hs') _ _ (HR.out.below B0.out)).mono ?_
  rintro e w1 ⟨rfl, hb⟩
  rw [C1.out]
  have B1 := Lib.hid (B0.out.trans (hb.mono B0.out.size))
  have K1 := Lib.hid (And.intro (K.out.1.below hb) (And.intro (K.out.2.1.below hb) (K.out.2.2.below hb)))
  clear hb
  obtain ⟨⟨m0, m1⟩, -⟩ := K1.out.2.1.two
  go_wp2_with fail
  refine (i_isreg (n, ks) _ _ (HS.out.below B1.out)).mono ?_
  rintro e w2 ⟨rfl, hb⟩
  rw [C2.out]
  have B2 := Lib.hid (B1.out.trans (hb.mono B1.out.size))
  have K2 := Lib.hid (And.intro (K1.out.1.below hb) (And.intro (K1.out.2.1.below hb) (K1.out.2.2.below hb)))
  clear hb m0 m1
  obtain ⟨⟨l0, l1⟩, -⟩ := K2.out.1.two
  obtain ⟨⟨m0, m1⟩, -⟩ := K2.out.2.1.two
  go_wp2_with fail
  refine (i_fixed (n, hs') _ _ (HR.out.below B2.out) (fun k hk => by have h := halfOk_t (R8.out.2.2.2 k hk); simp only at h ⊢; omega) R8.out.2.2.1).mono ?_
  rintro e w3 ⟨⟨g, zc, rfl, ho⟩, hb⟩
  have HF3 := Lib.hid ho
  have B3 := Lib.hid (B2.out.trans (hb.mono B2.out.size))
  have K3 := Lib.hid (And.intro (K2.out.1.below hb) (And.intro (K2.out.2.1.below hb) (K2.out.2.2.below hb)))
  have Z2 := Lib.hid (show w.heap.size + 3 ≤ w2.heap.size from K2.out.2.2.lt)
  have Z3 := Lib.hid hb.size
  clear ho hb l0 l1 m0 m1
  go_wp2_with fail
  refine (i_clonef hs' _ _ g zc _ HF3.out (by have := R8.out.2.2.1; omega)).mono ?_
  rintro e w4 ⟨⟨z, rfl, ho⟩, hb⟩
  obtain ⟨va, vc, rfl, _⟩ := ho.shape
  have HF4 := Lib.hid (HF3.out.below hb)
  have HA4 := Lib.hid ho
  have B4 := Lib.hid (B3.out.trans (hb.mono B3.out.size))
  have K4 := Lib.hid (And.intro (K3.out.1.below hb) (And.intro (K3.out.2.1.below hb) (K3.out.2.2.below hb)))
  have Z4 := Lib.hid hb.size
  clear ho hb
  obtain ⟨⟨m0, m1⟩, -⟩ := K4.out.2.1.two
  go_wp2_with fail
  refine (i_fixed (n, ks) _ _ (HS.out.below B4.out) (fun k hk => by have h := halfOk_t (Q8.out.2.2.2 k hk); simp only at h ⊢; omega) Q8.out.2.2.1).mono ?_
  rintro e w5 ⟨⟨g5, c5, rfl, ho⟩, hb⟩
  have Z5 := Lib.hid hb.size
  have HI := Lib.hid (show AllI w w2 w3 w4 w5 n (.slice a hs'.length c) (.slice (some ⟨g, 0, none⟩) hs'.length zc) (.slice (some ⟨g5, 0, none⟩) ks.length c5) (.slice va hs'.length vc) hs' ks (hs' ++ newL hs' (ks.take 0)) w5 from
    ⟨K4.out.1.below hb, K4.out.2.2.below hb, HF4.out.below hb, ho, by rw [show hs' ++ newL hs' (ks.take 0) = hs' by simp [newL]]; exact (HA4.out.below hb).mono (Nat.le_refl _) hb.size, fun b hb2 => .inl (HA4.out.2 b hb2), B4.out.trans (hb.mono B4.out.size), Nat.le_refl _⟩)
  clear ho hb m0 m1
  go_wp2
  go_loopw [7, 33] (fun o i wr => ∃ (k : Nat) (V : Value), k ≤ ks.length ∧ i = .int .i64 k ∧ V = o ∧ AllI w w2 w3 w4 w5 n (.slice a hs'.length c) (.slice (some ⟨g, 0, none⟩) hs'.length zc) (.slice (some ⟨g5, 0, none⟩) ks.length c5) V hs' ks (hs' ++ newL hs' (ks.take k)) wr) (fun _ i _ => ks.length - (RowKit.intOf i).toNat)
  case atStart => exact ⟨0, _, Nat.zero_le _, rfl, rfl, HI.out⟩
  case round =>
    obtain ⟨k, V, hk, rfl, rfl, hci⟩ := hrel
    have HC := Lib.hid hci
    clear hci
    by_cases hlt : k < ks.length
    · obtain ⟨b', e1, _, _, _, p4, ⟨d0, d1, d2, d3⟩, _⟩ := HC.out.2.2.2.1.at k hlt rfl
      simp only [Option.some.injEq, Addr.mk.injEq, and_true] at e1
      subst e1
      have i1 : (0 : Int) ≤ (k : Int) := by omega
      have i2 : (k : Int) < (ks.length : Int) := by omega
      have hk1 := halfOk_t (Q8.out.2.2.2 k hlt)
      have HPk := Lib.hid (show (∀ (j : Nat) (hj : j < hs'.length), ks[k].1.length = hs'[j].1.length) ∧ ks[k].1.length ≤ 3 from ⟨fun j hj => by have h := halfOk_t (R8.out.2.2.2 j hj); omega, by omega⟩)
      obtain ⟨x0, hx0⟩ : ∃ q : Int, ks[k].1.getD 0 0 = q := ⟨_, rfl⟩
      obtain ⟨x1, hx1⟩ : ∃ q : Int, ks[k].1.getD 1 0 = q := ⟨_, rfl⟩
      obtain ⟨x2, hx2⟩ : ∃ q : Int, ks[k].1.getD 2 0 = q := ⟨_, rfl⟩
      obtain ⟨x3, hx3⟩ : ∃ q : Int, ks[k].2 = q := ⟨_, rfl⟩
      rw [hx0] at d0
      rw [hx1] at d1
      rw [hx2] at d2
      rw [hx3] at d3
      have HCT := Lib.hid (fun W hv => i_containsf hs' ks[k] w2.heap.size w3.heap.size (.slice (some ⟨g, 0, none⟩) hs'.length zc) W hv HPk.out.1 HPk.out.2)
      rw [hx0, hx1, hx2, hx3] at HCT
      have E0 := Lib.hid (And.intro hx0 (And.intro hx1 (And.intro hx2 hx3)))
      have hnb := below1 wr (.cells #[.int .i64 x0, .int .i64 x1, .int .i64 x2, .int .i64 x3] 69)
      have HNB := Lib.hid hnb
      have KH := Lib.hid (Bk.new wr #[.int .i64 x0, .int .i64 x1, .int .i64 x2, .int .i64 x3] 69)
      obtain ⟨q, hq⟩ : ∃ q : Bool, seenL hs' ks[k] = q := ⟨_, rfl⟩
      have HQ := Lib.hid hq
      clear hk1 hx0 hx1 hx2 hx3 hnb hq
      go_wp2_with fail
      refine (HCT.out _ (HC.out.2.2.1.below HNB.out)).mono ?_
      rintro e w6 ⟨rfl, hb⟩
      rw [HQ.out]
      have HB6 := Lib.hid (HNB.out.trans (hb.mono HNB.out.size))
      have K6 := Lib.hid (KH.out.below hb)
      clear hb d0 d1 d2 d3
      cases q with
      | true =>
        have HN := Lib.hid (new_same hlt HQ.out)
        go_wp2
        exact ⟨⟨k + 1, _, by omega, by go_num, rfl, by rw [HN.out]; exact HC.out.below HB6.out⟩, by simp [RowKit.intOf]; omega⟩
      | false =>
        have HN := Lib.hid (new_more hlt HQ.out)
        have l0 : w6.cell? ⟨wr.heap.size, 0, none⟩ = some (.int .i64 x0) := K6.out.cell 0 rfl
        have l1 : w6.cell? ⟨wr.heap.size, 1, none⟩ = some (.int .i64 x1) := K6.out.cell 1 rfl
        have l2 : w6.cell? ⟨wr.heap.size, 2, none⟩ = some (.int .i64 x2) := K6.out.cell 2 rfl
        have l3 : w6.cell? ⟨wr.heap.size, 3, none⟩ = some (.int .i64 x3) := K6.out.cell 3 rfl
        have HC6 := Lib.hid (HC.out.below HB6.out)
        have hnb := below1 w6 (.cells #[.int .i64 x0, .int .i64 x1, .int .i64 x2, .int .i64 x3] 69)
        have HC7 := Lib.hid (HC6.out.below hnb)
        have HNN := Lib.hid (show (w6.alloc (.cells #[.int .i64 x0, .int .i64 x1, .int .i64 x2, .int .i64 x3] 69)).heap[w6.heap.size]? = some (.cells #[.int .i64 (ks[k].1.getD 0 0), .int .i64 (ks[k].1.getD 1 0), .int .i64 (ks[k].1.getD 2 0), .int .i64 ks[k].2] 69 (0, 0)) by rw [E0.out.1, E0.out.2.1, E0.out.2.2.1, E0.out.2.2.2]; exact heap_alloc_new w6 _)
        have hM16 : (hs' ++ newL hs' (ks.take k)).length ≤ 1099511627776 := by have := new_len8 (k := k) R8.out.2.2.1 Q8.out.2.2.1; omega
        have HZ7 := Lib.hid (show w3.heap.size ≤ (w6.alloc (.cells #[.int .i64 x0, .int .i64 x1, .int .i64 x2, .int .i64 x3] 69)).heap.size from Nat.le_trans (Nat.le_trans Z4.out Z5.out) HC7.out.2.2.2.2.2.2.2)
        clear hnb
        go_wp2_with (at_builtin; refine list_app_fx rfl _ _ rfl w3.heap.size _ _ (hs' ++ newL hs' (ks.take k)) ks[k] rfl HC7.out.2.2.2.2.1 w6.heap.size rfl HNN.out hM16 HZ7.out ?_; intro g7 cap w7 ho7 hb7 hg7 hat7)
        have HA7 := Lib.hid (show OwF 69 w3.heap.size w7.heap.size w7 (.slice (some ⟨g7, 0, none⟩) (hs'.length + (newL hs' (ks.take k)).length + 1) cap) (hs' ++ newL hs' (ks.take (k + 1))) by rw [HN.out, ← List.append_assoc, ← List.length_append]; exact ho7)
        have hz := HC7.out.2.2.2.2.2.2.2
        have hz6 : w5.heap.size ≤ w6.heap.size := HC6.out.2.2.2.2.2.2.2
        have hz2 := Z2.out
        have hz3 := Z3.out
        have hz4 := Z4.out
        have hz5 := Z5.out
        have hown := HC7.out.2.2.2.2.1
        have hav := HC7.out.2.2.2.2.2.1
        refine ⟨⟨k + 1, _, by omega, by go_num, rfl, HC7.out.1.since hb7 (by omega), HC7.out.2.1.since hb7 (by omega), HC7.out.2.2.1.grown hg7 ?_, HC7.out.2.2.2.1.grown hg7 ?_, HA7.out, ?_, HC7.out.2.2.2.2.2.2.1.trans (hb7.mono (by omega)), Nat.le_trans hz hg7.size⟩, by simp [RowKit.intOf]; omega⟩
        · intro b hb e
          have h1 := HC7.out.2.2.1.2 b hb
          have h2 := (hown.1.lt b e.symm).1
          omega
        · intro b hb e
          have h1 := HC7.out.2.2.2.1.2 b hb
          have h2 := (HC7.out.2.2.2.1.1.lt b hb).1
          rcases hav b e.symm with h3 | h3 <;> omega
        · intro b hb
          obtain rfl : g7 = b := by simpa [Value.ownBlock] using hb
          rcases hat7 with h3 | h3
          · exact hav g7 h3
          · exact .inr (by rw [h3]; exact hz)
    · obtain rfl : k = ks.length := by omega
      have HC1 := Lib.hid (show AllI w w2 w3 w4 w5 n (.slice a hs'.length c) (.slice (some ⟨g, 0, none⟩) hs'.length zc) (.slice (some ⟨g5, 0, none⟩) ks.length c5) V hs' ks (meetL hs' ks) wr by have h := HC.out; rw [List.take_length] at h; exact h)
      have HML := Lib.hid (fun (k : Nat) (hk : k < (meetL hs' ks).length) => show ((meetL hs' ks)[k].1.length : Int) = n by have h := meet_lens C1.out C2.out ks.length k (by rw [List.take_length]; exact hk); simp only [List.take_length] at h; exact h)
      have HM16 := Lib.hid (show (meetL hs' ks).length ≤ 16 by have h := new_len8 (k := ks.length) R8.out.2.2.1 Q8.out.2.2.1; simp only [List.take_length] at h; exact h)
      obtain ⟨⟨l0, l1⟩, -⟩ := HC1.out.1.two
      obtain ⟨N, hN⟩ : ∃ N : Nat, n = N := ⟨n.toNat, by have := R8.out.1; omega⟩
      subst hN
      have HEE := Lib.hid (show meetR (N : Int) hs' N ks = regR N (meetL hs' ks) from HE.out)
      have HV1 := Lib.hid HC1.out.2.2.2.2.1
      go_wp2_with fail
      refine (i_regof N (meetL hs' ks) _ _ _ _ HV1.out (by have := R8.out.1; omega) (by have := R8.out.2.1; omega) (fun k hk => by have := HML.out k hk; omega) (by have := HM16.out; omega)).mono ?_
      rintro e w8 ⟨⟨z, rfl, zu, rfl, ho⟩, hb⟩
      obtain ⟨ra, rc, rfl, _⟩ := ho.hs.shape
      have HO := Lib.hid ho
      have K8 := Lib.hid (HC1.out.2.1.below hb)
      have B8 := Lib.hid (HC1.out.2.2.2.2.2.2.1.trans (hb.mono HC1.out.2.2.2.2.2.2.1.size))
      clear ho hb l0 l1
      obtain ⟨⟨p0, p1⟩, pf0, pf1⟩ := K8.out.two
      go_wp2
      refine bodyPost_ret (v := .tuple #[.agg #[.int .i64 (regR N (meetL hs' ks)).1.1, .slice ra (regR N (meetL hs' ks)).1.2.length rc], .bool (regR N (meetL hs' ks)).2]) ?_ rfl (got_mk2 HEE.out ⟨⟨_, rfl, _, rfl, ?_⟩, (B8.out.setCell (by show _ ≤ w.heap.size + 2; omega) _).setCell (by show _ ≤ w.heap.size + 2; omega) _⟩)
      · simp [results, Try.results29, go_sem, p0, p1]
      · have hz := HC1.out.2.2.2.2.2.2.2
        have hz2 := Z2.out
        have hz3 := Z3.out
        have hz4 := Z4.out
        have hz5 := Z5.out
        exact (HO.out.kept (((Kept.refl (w.heap.size + 2) (w.heap.size + 3) w8).setCell (p := ⟨w.heap.size + 2, 0, none⟩) (Nat.le_refl _) (Nat.lt_succ_self _) _).setCell (p := ⟨w.heap.size + 2, 1, none⟩) (Nat.le_refl _) (Nat.lt_succ_self _) _) (.inr (by omega))).mono (by omega) (by simp [World.setCell])

theorem i_meet (r s : Rgn) (v u : Value) (w : World) (hv : Rg w v r) (hu : Rg w u s) :
    Calls Try.prog 29 #[v, u] w (GotG w (meetR r.1 r.2 s.1 s.2)) := by
  by_cases c1 : regOk r.1 r.2 = true
  · by_cases c2 : regOk s.1 s.2 = true
    · by_cases c3 : r.1 = s.1
      · exact i_meet_t r s v u w c1 c2 c3 hv hu
      · exact i_meet_f3 r s v u w c1 c2 c3 hv hu
    · exact i_meet_f2 r s v u w c1 (bool_f c2) hv hu
  · exact i_meet_f1 r s v u w (bool_f c1) hv hu
end Go.Proofs.Ytflkalgofkpdbaa
