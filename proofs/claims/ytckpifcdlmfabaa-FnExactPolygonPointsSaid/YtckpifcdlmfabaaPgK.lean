/- The program's bendLeft. -/
import Derived.Test.YtckpifcdlmfabaaPgJ
import Derived.Test.YtckpifcdlmfabaaPgE
import Derived.Test.YtckpifcdlmfabaaPgB
namespace Go.Proofs.Ytckpifcdlmfabaa
open Go Go.RowKit Go.Lib

theorem keep9D {w W : World} {p1 p2 p3 p4 p5 p6 p7 p8 p9 : Addr} {x1 x2 x3 x4 x5 x6 x7 x8 x9 : Value} (h1 : W.cell? p1 = some x1) (h2 : W.cell? p2 = some x2) (h3 : W.cell? p3 = some x3) (h4 : W.cell? p4 = some x4) (h5 : W.cell? p5 = some x5) (h6 : W.cell? p6 = some x6) (h7 : W.cell? p7 = some x7) (h8 : W.cell? p8 = some x8) (h9 : W.cell? p9 = some x9) (hb : Below w.heap.size w W) :
    W.drew.cell? p1 = some x1 ∧ W.drew.cell? p2 = some x2 ∧ W.drew.cell? p3 = some x3 ∧ W.drew.cell? p4 = some x4 ∧ W.drew.cell? p5 = some x5 ∧ W.drew.cell? p6 = some x6 ∧ W.drew.cell? p7 = some x7 ∧ W.drew.cell? p8 = some x8 ∧ W.drew.cell? p9 = some x9 ∧ Below w.heap.size w W.drew := ⟨h1, h2, h3, h4, h5, h6, h7, h8, h9, hb.drew⟩
theorem keep9E {w W w1 : World} {p1 p2 p3 p4 p5 p6 p7 p8 p9 : Addr} {x1 x2 x3 x4 x5 x6 x7 x8 x9 : Value} (l1 : p1.block < w.heap.size) (l2 : p2.block < w.heap.size) (l3 : p3.block < w.heap.size) (l4 : p4.block < w.heap.size) (l5 : p5.block < w.heap.size) (l6 : p6.block < w.heap.size) (l7 : p7.block < w.heap.size) (l8 : p8.block < w.heap.size) (l9 : p9.block < w.heap.size)
    (h1 : W.cell? p1 = some x1) (h2 : W.cell? p2 = some x2) (h3 : W.cell? p3 = some x3) (h4 : W.cell? p4 = some x4) (h5 : W.cell? p5 = some x5) (h6 : W.cell? p6 = some x6) (h7 : W.cell? p7 = some x7) (h8 : W.cell? p8 = some x8) (h9 : W.cell? p9 = some x9) (hb : Below w.heap.size w W) (hb1 : Below W.heap.size W w1) :
    w1.cell? p1 = some x1 ∧ w1.cell? p2 = some x2 ∧ w1.cell? p3 = some x3 ∧ w1.cell? p4 = some x4 ∧ w1.cell? p5 = some x5 ∧ w1.cell? p6 = some x6 ∧ w1.cell? p7 = some x7 ∧ w1.cell? p8 = some x8 ∧ w1.cell? p9 = some x9 ∧ Below w.heap.size w w1 := by
  have k : ∀ {p : Addr} {x : Value}, p.block < w.heap.size → W.cell? p = some x → w1.cell? p = some x := fun hp h => (hb1.cell (Nat.lt_of_lt_of_le hp hb.size)).trans h
  exact ⟨k l1 h1, k l2 h2, k l3 h3, k l4 h4, k l5 h5, k l6 h6, k l7 h7, k l8 h8, k l9 h9, hb.trans (hb1.mono hb.size)⟩
/-- append(points, point) at a plain list of operations. -/
theorem list_app_np {ops : Array Oper} {rest : List Oper} {o : Oper} {a : Act} {w : World} {Q : Exit → Act → World → Prop} (hgd : o.guard = none) (s x : Operand)
    (ho : o.op = .call { callee := .builtin .append, args := #[s, x], argTypes := #[79, 79] })
    (lo hi : Nat) (v : Value) (l : List P2) (p : P2) (hs : a.eval s = v) (hown : OwP lo hi w v l)
    (H : Nat) (hx : a.eval x = .slice (some ⟨H, 0, none⟩) 1 1) (hnew : w.heap[H]? = some (.cells #[.int .i64 p.1, .int .i64 p.2, .int .i64 0] 57 (0, 0)))
    (hn : l.length ≤ 1048576) (hlo : lo ≤ w.heap.size)
    (k : ∀ g cap w', OwP lo w'.heap.size w' (.slice (some ⟨g, 0, none⟩) (l.length + 1) cap) (l ++ [p]) → w.grownBy w' v.ownBlock → wpList Try.prog ops Q rest (a.put o.dst (.slice (some ⟨g, 0, none⟩) (l.length + 1) cap)) w') :
    wpList Try.prog ops Q (o :: rest) a w := by
  obtain ⟨i0, hi', hz0, hz1, hz2⟩ := info_parts info_nums
  refine wpList_append_lies w hgd s x 79 ho lo 57 i0 _ 3 24 Try.underlying79 hi' hz0 hz1 hz2 rfl (by omega) v l.length (l.flatMap encP) hs hown.1 ⟨H, 0, none⟩ 1 1 (encP p) hx rfl (World.news_of_block (cs := #[.int .i64 p.1, .int .i64 p.2, .int .i64 0]) hnew) (encP_one p) (by omega) (by unfold maxLen; omega) (by omega) hlo w.heap.size rfl ?_
  intro g cap w' k1 k2 _ _
  refine k g cap w' ⟨?_, fun b hb => (k1.lt b hb).2⟩ k2
  rw [List.length_append, List.length_singleton, List.flatMap_append]
  simpa using k1
/-- What bendLeft leaves. -/
def MadeP (w : World) (l : List P2) (e : Ending) (w' : World) : Prop := (∃ u, e = .returned u ∧ OwP w.heap.size w'.heap.size w' u l) ∧ Below w.heap.size w w'

set_option maxRecDepth 100000 in
set_option maxHeartbeats 8000000 in
theorem i_bend (ps : List P2) (h200 : ps.length ≤ 200) (hbd : ∀ p ∈ ps, BdP 50 p) (lo hi : Nat) (v : Value) (w : World) (hv : OwP lo hi w v ps) :
    Calls Try.prog 117 #[v] w (MadeP w (bendL ps)) := by
  obtain ⟨va, vc, rfl, hvc, hvm⟩ := hv.shape
  unfold maxLen at hvm
  have HV := Lib.hid hv
  have HBD := Lib.hid hbd
  clear hv hbd
  go_enter Try.func117, Try.ntmps117
  go_wp2
  go_loopw [8, 3] (fun i o wr => ∃ k : Nat, k ≤ ps.length ∧ i = .int .i64 k ∧ OwP w.heap.size wr.heap.size wr o (bendR (ps.take k)).reverse ∧ Below w.heap.size w wr) (fun i _ _ => ps.length - (RowKit.intOf i).toNat)
  case atStart => exact ⟨0, Nat.zero_le _, rfl, OwE.nil, Below.refl _ _⟩
  case round =>
    obtain ⟨k, hk, rfl, ho, hb⟩ := hrel
    rename World => wk
    have HKB := Lib.hid hb
    have HKO := Lib.hid ho
    obtain ⟨oa, oc, rfl, hoc, hom⟩ := ho.shape
    rw [List.length_reverse] at hoc HKO ⊢
    unfold maxLen at hom
    clear ho hb
    by_cases hlt : k < ps.length
    · have i1 : (0 : Int) ≤ (k : Int) := by omega
      have i2 : (k : Int) < (ps.length : Int) := by omega
      obtain ⟨b, rfl, -, -, -, hb2, -, ⟨q0, q1, q2⟩, -⟩ := HV.out.at3 k hlt rfl
      rw [← HKB.out.cell (p := ⟨b, k * 3, none⟩) hb2] at q0
      rw [← HKB.out.cell (p := ⟨b, k * 3 + 1, none⟩) hb2] at q1
      rw [← HKB.out.cell (p := ⟨b, k * 3 + 2, none⟩) hb2] at q2
      have HQ := Lib.hid (bend_take_ok (L := ps) k)
      obtain ⟨x, hx⟩ : ∃ x, ps[k] = x := ⟨_, rfl⟩
      rw [hx] at q0 q1
      have HXE := Lib.hid hx
      have HXB := Lib.hid ((HBD.out x (by rw [← hx]; exact List.getElem_mem _)).wide (m := 1000) (by omega))
      obtain ⟨x1, x2⟩ := x
      simp only at q0 q1
      clear hx
      have KX := Lib.hid (Bk.new wk #[.int .i64 x1, .int .i64 x2, .int .i64 0] 57)
      have BX := Lib.hid (below1 wk (.cells #[.int .i64 x1, .int .i64 x2, .int .i64 0] 57))
      go_wp2_with fail
      go_loopw [3] (fun o wr => ∃ l : List P2, OwP w.heap.size wk.heap.size wr o l.reverse ∧ popR l (x1, x2) = popR (bendR (ps.take k)) (x1, x2) ∧ l.length ≤ 200 ∧ (∀ p ∈ l, p ∈ ps) ∧ Bk wr wk.heap.size #[.int .i64 x1, .int .i64 x2, .int .i64 0] 57 ∧ Below w.heap.size w wr) (fun o _ => slen o)
      case atStart => exact ⟨_, HKO.out.below BX.out, rfl, by have := HQ.out.2; omega, HQ.out.1, KX.out, HKB.out.trans (BX.out.mono HKB.out.size)⟩
      case round =>
        obtain ⟨l, ho, hp', hl, hm, hkx, hb⟩ := hrel
        rename World => w2
        have HP := Lib.hid hp'
        have HM := Lib.hid hm
        have HO2 := Lib.hid ho
        have HB2 := Lib.hid hb
        have HL2 := Lib.hid hl
        have KX2 := Lib.hid hkx
        obtain ⟨ga, gc, rfl, hgc, hgm⟩ := ho.shape
        rw [List.length_reverse] at HO2 hgc ⊢
        unfold maxLen at hgm
        obtain ⟨m, hm9⟩ : ∃ m, l.length = m := ⟨_, rfl⟩
        rw [hm9] at HO2 hgc hl ⊢
        have HM9 := Lib.hid hm9
        have hkl : wk.heap.size < w2.heap.size := hkx.lt
        clear hp' hm ho hb hm9 hkx q0 q1 q2
        by_cases h2 : 1 < m
        · obtain ⟨b', a, r, rfl⟩ : ∃ b a r, l = b :: a :: r := by
            match l, HM9.out with
            | b :: a :: r, _ => exact ⟨b, a, r, rfl⟩
            | [_], h => simp at h; omega
            | [], h => simp at h; omega
          obtain ⟨i, hi⟩ : ∃ i, i + 2 = m := ⟨m - 2, by omega⟩
          obtain ⟨n, hn⟩ : ∃ n, n + 1 = m := ⟨m - 1, by omega⟩
          have hrl : r.length + 2 = m := by have := HM9.out; simpa using this
          have g1 : (b' :: a :: r).reverse[i]? = some a := by
            simp only [List.reverse_cons, List.append_assoc]
            rw [List.getElem?_append_right (by simp; omega)]
            simp only [List.length_reverse]
            rw [show i - r.length = 0 by omega]; rfl
          have g2 : (b' :: a :: r).reverse[n]? = some b' := by
            simp only [List.reverse_cons, List.append_assoc]
            rw [List.getElem?_append_right (by simp; omega)]
            simp only [List.length_reverse]
            rw [show n - r.length = 1 by omega]; rfl
          obtain ⟨b1, rfl, -, -, -, hb1l, -, ⟨ca0, ca1, ca2⟩, -⟩ := HO2.out.at3 i (lt_of_get g1) rfl
          obtain ⟨b2, e2, -, -, -, -, -, ⟨cb0, cb1, cb2⟩, -⟩ := HO2.out.at3 n (lt_of_get g2) rfl
          obtain rfl : b1 = b2 := by simpa using e2
          rw [show (b' :: a :: r).reverse[i]'(lt_of_get g1) = a from by have := List.getElem?_eq_getElem (lt_of_get g1); rw [g1] at this; exact (Option.some.inj this).symm] at ca0 ca1
          rw [show (b' :: a :: r).reverse[n]'(lt_of_get g2) = b' from by have := List.getElem?_eq_getElem (lt_of_get g2); rw [g2] at this; exact (Option.some.inj this).symm] at cb0 cb1
          obtain ⟨cx0, cx1, cx2⟩ := bk3c KX2.out
          have j1 : IntKind.i64.wrap ((m : Int) - 2) = (i : Int) := by rw [IntWalk.i64_in _ (by omega)]; omega
          have j2 : IntKind.i64.wrap ((m : Int) - 1) = (n : Int) := by rw [IntWalk.i64_in _ (by omega)]; omega
          have j4 : (1 : Int) < (m : Int) := by omega
          have j5 : (0 : Int) ≤ (i : Int) := by omega
          have j6 : (i : Int) < (m : Int) := by omega
          have j7 : (0 : Int) ≤ (n : Int) := by omega
          have j8 : (n : Int) < (m : Int) := by omega
          have HII := Lib.hid hn
          obtain ⟨t, ht⟩ : ∃ t, turnP a b' (x1, x2) = t := ⟨_, rfl⟩
          have HTT := Lib.hid ht
          have CT := Lib.hid (fun W => i_turn a b' (x1, x2) (HBD.out a (HM.out a (by simp))) (HBD.out b' (HM.out b' (by simp))) HXB.out W)
          obtain ⟨a1, a2⟩ := a
          obtain ⟨d1, d2⟩ := b'
          simp only at ca0 ca1 cb0 cb1
          have hbr : Below w2.heap.size w2 w2 := Below.refl _ _
          have j9 : decide ((1 : Int) < (m : Int)) = true := decide_eq_true j4
          clear g1 g2 e2 hi hn ht hl hrl
          go_wp2_with fail
          go_region_held3 (fun w' => w'.cell? ⟨b1, i * 3, none⟩ = some (.int .i64 a1) ∧ w'.cell? ⟨b1, i * 3 + 1, none⟩ = some (.int .i64 a2) ∧ w'.cell? ⟨b1, i * 3 + 2, none⟩ = some (.int .i64 0) ∧ w'.cell? ⟨b1, n * 3, none⟩ = some (.int .i64 d1) ∧ w'.cell? ⟨b1, n * 3 + 1, none⟩ = some (.int .i64 d2) ∧ w'.cell? ⟨b1, n * 3 + 2, none⟩ = some (.int .i64 0) ∧ w'.cell? ⟨wk.heap.size, 0, none⟩ = some (.int .i64 x1) ∧ w'.cell? ⟨wk.heap.size, 1, none⟩ = some (.int .i64 x2) ∧ w'.cell? ⟨wk.heap.size, 2, none⟩ = some (.int .i64 0) ∧ Below w2.heap.size w2 w')
            (first
              | with_reducible exact keep9D ca0 ca1 ca2 cb0 cb1 cb2 cx0 cx1 cx2 hbr
              | (go_split_ands; with_reducible exact keep9E hb1l hb1l hb1l hb1l hb1l hb1l hkl hkl hkl (by assumption) (by assumption) (by assumption) (by assumption) (by assumption) (by assumption) (by assumption) (by assumption) (by assumption) (by assumption) (by assumption))
              | go_keep)
            (first | (go_at_call 80; refine (CT.out _).mono ?_; rintro e w3 ⟨rfl, hb3⟩; rw [HTT.out]))
          rename_i hH
          have hB := hH.2.2.2.2.2.2.2.2.2
          have HB3 := Lib.hid (HB2.out.trans (hB.mono HB2.out.size))
          have HO3 := Lib.hid (HO2.out.below hB)
          have KX3 := Lib.hid (KX2.out.below hB)
          clear hH hB hbr ca0 ca1 ca2 cb0 cb1 cb2 cx0 cx1 cx2 hb1l
          by_cases ht : t ≤ 0
          · have j11 : (n : Int) ≤ (gc : Int) := by omega
            go_wp2
            have hcut := HO3.out.cut encP_len (m := n) (by rw [List.length_reverse, HM9.out]; have := HII.out; omega)
            have e5 : ((d1, d2) :: (a1, a2) :: r).reverse.take n = ((a1, a2) :: r).reverse := by
              have h1 := HM9.out
              have h2 := HII.out
              simp only [List.length_cons] at h1
              rw [List.reverse_cons, List.take_append_of_le_length (by simp; omega), List.take_of_length_le (by simp; omega)]
            rw [e5] at hcut
            refine ⟨⟨(a1, a2) :: r, hcut, ?_, by have := HL2.out; simp only [List.length_cons] at this ⊢; omega, fun p hp => HM.out p (List.mem_cons_of_mem _ hp), KX3.out, HB3.out⟩, by simp [slen]; have := HII.out; omega⟩
            rw [← HP.out, popR, if_pos (by rw [HTT.out]; exact ht)]
          · have HPX := Lib.hid (show popR ((d1, d2) :: (a1, a2) :: r) (x1, x2) = (d1, d2) :: (a1, a2) :: r by rw [popR, if_neg (by rw [HTT.out]; exact ht)])
            obtain ⟨l, hl9⟩ : ∃ l, (d1, d2) :: (a1, a2) :: r = l := ⟨_, rfl⟩
            rw [hl9] at HP HO3 HPX HM9 HL2
            clear hl9
            obtain ⟨cx0, cx1, cx2⟩ := bk3c KX3.out
            go_wp2_with (at_builtin; go_must (refine list_app_np rfl _ _ rfl w.heap.size wk.heap.size (.slice (some ⟨b1, 0, none⟩) m gc) l.reverse (x1, x2) rfl (HO3.out.below (below1 _ _)) _ rfl (heap_alloc_new _ _) (by have := HL2.out; rw [List.length_reverse]; omega) (by have := HB3.out.size; simp; omega) ?_; intro g8 c8 w8 ho8 hb8))
            have HO8 := Lib.hid ho8
            have B8 := Lib.hid (show Below w.heap.size w w8 from (HB3.out.trans ((below1 _ _).mono HB3.out.size)).trans ((Below.refl w.heap.size _).grown hb8 (by have := HB3.out.size; simp; omega) (fun q hq => (HO3.out.1.lt q hq).1)))
            clear ho8 hb8
            go_wp2
            refine ⟨⟨k + 1, by omega, by go_num, ?_, B8.out⟩, by simp [RowKit.intOf]; omega⟩
            have h := HO8.out
            rw [List.length_reverse, HM9.out] at h
            rw [bendR_take hlt, HXE.out, ← HP.out, HPX.out, List.reverse_cons]
            simpa [HM9.out] using h
        · have HPX := Lib.hid (show popR l (x1, x2) = l from by
            match l, HM9.out with
            | [], _ => rfl
            | [_], _ => rfl
            | _ :: _ :: _, h => simp at h; omega)
          have j4 : ¬ (1 : Int) < (m : Int) := by omega
          have j9 : decide ((1 : Int) < (m : Int)) = false := decide_eq_false j4
          clear hl
          go_wp2_with fail
          go_quiet (fail)
          refine egen ?_
          intro w4 hw4
          have b4 : Below w2.heap.size w2 w4 := by rw [hw4]; exact below_drewN' (Below.refl _ _) _
          have HB4 := Lib.hid (HB2.out.trans (b4.mono HB2.out.size))
          have HO4 := Lib.hid (HO2.out.below b4)
          have KX4 := Lib.hid (KX2.out.below b4)
          clear hw4 b4 hkl
          obtain ⟨cx0, cx1, cx2⟩ := bk3c KX4.out
          go_wp2_with (at_builtin; go_must (refine list_app_np rfl _ _ rfl w.heap.size wk.heap.size (.slice ga m gc) l.reverse (x1, x2) rfl (HO4.out.below (below1 _ _)) _ rfl (heap_alloc_new _ _) (by have := HL2.out; rw [List.length_reverse]; omega) (by have := HB4.out.size; simp; omega) ?_; intro g8 c8 w8 ho8 hb8))
          have HO8 := Lib.hid ho8
          have B8 := Lib.hid (show Below w.heap.size w w8 from (HB4.out.trans ((below1 _ _).mono HB4.out.size)).trans ((Below.refl w.heap.size _).grown hb8 (by have := HB4.out.size; simp; omega) (fun q hq => (HO4.out.1.lt q hq).1)))
          clear ho8 hb8
          go_wp2
          refine ⟨⟨k + 1, by omega, by go_num, ?_, B8.out⟩, by simp [RowKit.intOf]; omega⟩
          have h := HO8.out
          rw [List.length_reverse, HM9.out] at h
          rw [bendR_take hlt, HXE.out, ← HP.out, HPX.out, List.reverse_cons]
          simpa [HM9.out] using h
    · obtain rfl : k = ps.length := by omega
      rw [List.take_length] at HKO hoc ⊢
      have HD := Lib.hid (show bendL ps = ((bendR ps).tail).reverse from rfl)
      obtain ⟨m, hm⟩ : ∃ m, (bendR ps).length = m := ⟨_, rfl⟩
      rw [hm] at HKO hoc ⊢
      have HM := Lib.hid hm
      clear hm
      by_cases h0 : 0 < m
      · obtain ⟨n, hn⟩ : ∃ n, n + 1 = m := ⟨m - 1, by omega⟩
        have HN := Lib.hid hn
        obtain ⟨b, rfl, -⟩ := HKO.out.at3 0 (by rw [List.length_reverse, HM.out]; omega) rfl
        have hcut := HKO.out.cut encP_len (m := n) (by rw [List.length_reverse, HM.out]; have := HN.out; omega)
        have e5 : (bendR ps).reverse.take n = bendL ps := by
          have h1 := HM.out
          have h2 := HN.out
          rw [HD.out]
          match hq : bendR ps with
          | [] => rw [hq] at h1; simp at h1; omega
          | y :: t =>
            rw [hq] at h1
            simp only [List.length_cons] at h1
            rw [List.tail_cons, List.reverse_cons, List.take_append_of_le_length (by simp; omega), List.take_of_length_le (by simp; omega)]
        rw [e5] at hcut
        have HCUT := Lib.hid hcut
        have j1 : IntKind.i64.wrap ((m : Int) - 1) = (n : Int) := by rw [IntWalk.i64_in _ (by omega)]; omega
        clear hcut e5
        by_cases hn0 : 0 < n
        · have j2 : (0 : Int) < (n : Int) := by omega
          have j5 : (0 : Int) ≤ (n : Int) := by omega
          have j6 : (n : Int) ≤ (oc : Int) := by omega
          clear hn
          go_wp2
          go_ret
          exact ⟨⟨_, rfl, HCUT.out⟩, HKB.out⟩
        · obtain rfl : n = 0 := by omega
          have j6 : (0 : Int) ≤ (oc : Int) := by omega
          clear hn
          go_wp2
          go_ret
          exact ⟨⟨_, rfl, HCUT.out⟩, HKB.out⟩
      · obtain rfl : m = 0 := by omega
        have HE := Lib.hid (show bendL ps = [] by rw [HD.out, List.eq_nil_of_length_eq_zero HM.out]; rfl)
        have ho := HKO.out
        rw [List.eq_nil_of_length_eq_zero HM.out] at ho
        have j1 : IntKind.i64.wrap (((0 : Nat) : Int) - 1) = -1 := by rw [IntWalk.i64_in _ (by omega)]; omega
        have j3 : IntKind.i64.wrap (-1) = -1 := by rw [IntWalk.i64_in _ (by omega)]
        rcases ho.1.2 with ⟨h, -⟩ | ⟨g, cp, cr, h, -⟩
        · simp only [Value.slice.injEq] at h
          obtain ⟨rfl, -, rfl⟩ := h
          have HO := Lib.hid ho
          clear ho
          go_wp2
          go_ret
          exact ⟨⟨_, rfl, by rw [HE.out]; exact HO.out⟩, HKB.out⟩
        · simp only [Value.slice.injEq] at h
          obtain ⟨rfl, -, rfl⟩ := h
          have HO := Lib.hid ho
          clear ho
          go_wp2
          go_ret
          exact ⟨⟨_, rfl, by rw [HE.out]; exact HO.out⟩, HKB.out⟩
end Go.Proofs.Ytckpifcdlmfabaa
