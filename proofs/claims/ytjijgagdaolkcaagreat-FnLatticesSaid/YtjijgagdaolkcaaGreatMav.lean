/- Helpers of the polygons. -/
import Derived.Test.YtjijgagdaolkcaaGreatVecK
import Derived.Test.YtjijgagdaolkcaaGreatMah
import Derived.Test.YtjijgagdaolkcaaGreatMal
import Derived.Test.YtjijgagdaolkcaaGreatMab
import Derived.Test.YtjijgagdaolkcaaGreatMeet
import Derived.Test.YtjijgagdaolkcaaGreatOrd
import Derived.Deep.RegionHeld3
import Derived.Deep.Cut
import Derived.BigQuiet
import Derived.Lib.SmallJoins
import Derived.Shelf.Abstract
import Derived.Test.YtjijgagdaolkcaaGreatMam
import Derived.Test.YtjijgagdaolkcaaGreatMac
namespace Go.Proofs.YtjijgagdaolkcaaGreat
open Go Go.RowKit Go.Lib

theorem ownsCut {w : World} {base g n m cap : Nat} {T : TypeId} {k : Nat} {xs : List Value} (h : w.ownsRow base T k (.slice (some ⟨g, 0, none⟩) n cap) n xs) (hm : m ≤ n) : w.ownsRow base T k (.slice (some ⟨g, 0, none⟩) m cap) m (xs.take (m * k)) := by
  obtain ⟨h1, h2⟩ := h
  have hk : m * k ≤ n * k := Nat.mul_le_mul_right k hm
  refine ⟨by rw [List.length_take, h1]; omega, ?_⟩
  rcases h2 with ⟨h2, _⟩ | ⟨g', cap', cur, e, hg, hh, hn, hc, hs, ht⟩
  · cases h2
  · simp only [Value.slice.injEq, Option.some.injEq, Addr.mk.injEq] at e
    obtain ⟨⟨rfl, _, _⟩, _, rfl⟩ := e
    refine .inr ⟨g, cap, cur, rfl, hg, hh, by omega, hc, hs, ?_⟩
    rw [← ht, List.take_take, Nat.min_eq_left hk]
theorem getIns {α : Type} {l : List α} {x : α} {a i : Nat} (ha : a ≤ l.length) : (l.take a ++ x :: l.drop a)[i]? = if i < a then l[i]? else if i = a then some x else l[i - 1]? := by
  have hl : (l.take a).length = a := by rw [List.length_take]; omega
  by_cases h1 : i < a
  · rw [if_pos h1, List.getElem?_append_left (by omega), List.getElem?_take, if_pos h1]
  · rw [if_neg h1, List.getElem?_append_right (by omega), hl]
    by_cases h2 : i = a
    · rw [if_pos h2, h2, Nat.sub_self]; rfl
    · rw [if_neg h2, show i - a = (i - 1 - a) + 1 by omega, List.getElem?_cons_succ, List.getElem?_drop, show a + (i - 1 - a) = i - 1 by omega]
theorem grownTrans {w w1 w2 : World} {r r2 : Option Nat} (h : w.grownBy w1 r) (h2 : w1.grownBy w2 r2) (hr : ∀ b, r2 = some b → r = some b ∨ w.heap.size ≤ b) : w.grownBy w2 r :=
  ⟨h2.os.trans h.os, h2.tape.trans h.tape, h2.output.trans h.output, Nat.le_trans h.size h2.size, fun k hk hne => (h2.block k (Nat.lt_of_lt_of_le hk h.size) (fun e => by
    rcases hr k e.symm with h1 | h1
    · exact hne h1.symm
    · omega)).trans (h.block k hk hne)⟩
/-- append(points, none...): the points themselves. -/
theorem runNone {w : World} (base : Nat) (t ty e : TypeId) (i : TypeInfo) (size : Nat) (ht : Tryz.prog.underlying t = some (.slice e)) (hi : Tryz.prog.info? e = some i)
    (v : Value) (n : Nat) (xs : List Value) (hown : w.ownsRow base e size v n xs) (ad : Option Addr) (c : Nat) :
    (Builtin.append_ #[t, t] ty #[v, .slice ad 0 c]).run Tryz.prog w = .ok v w := by
  rcases hown.2 with ⟨rfl, rfl⟩ | ⟨g, cap, cur, rfl, _, _, hnc, _⟩
  · cases ad <;> simp [Builtin.append_, run_underlying ht, sizeOf, typeInfo, hi, Builtin.lenOf, Builtin.firstCells, loadCells, loadCellsFrom]
  · cases ad <;> simp [Builtin.append_, run_underlying ht, sizeOf, typeInfo, hi, Builtin.lenOf, Builtin.firstCells, hnc, storeCells, loadCells, loadCellsFrom]
theorem takeAllEq {α : Type} {u v : List α} {k : Nat} (hl : u.length = v.length) (hk : k = u.length) (h : u.take k = v.take k) : u = v := by
  subst hk
  rw [List.take_length, hl, List.take_length] at h
  exact h
theorem takeEqStep {α : Type} {u v : List α} {k : Nat} (h1 : k < u.length) (h2 : k < v.length) (h : u.take k = v.take k) (he : u[k] = v[k]) : u.take (k + 1) = v.take (k + 1) := by
  rw [List.take_succ_eq_append_getElem h1, List.take_succ_eq_append_getElem h2, h, he]
theorem getNe {α : Type} {u v : List α} {k : Nat} (h1 : k < u.length) (h2 : k < v.length) (he : ¬ u[k] = v[k]) : ¬ u = v := by
  intro e; subst e; exact he rfl
set_option maxRecDepth 100000 in
set_option maxHeartbeats 800000 in
theorem s_sameP (u v : List Int) (a b : Value) (w : World) (ha : Sl w a (intVals u)) (hb : Sl w b (intVals v)) :
    Calls Tryz.prog 49 #[a, b] w (Quiet w (.bool (decide (u = v)))) := by
  obtain ⟨a, c, rfl, hm, ha⟩ := ha.shape
  obtain ⟨b, d, rfl, _, hb⟩ := hb.shape
  rw [intVals_len] at ha hb hm
  rw [intVals_len, intVals_len]
  unfold maxLen at hm
  have HA := Lib.hid ha
  have HB0 := Lib.hid hb
  clear ha hb
  by_cases hl : u.length = v.length
  · have HL := Lib.hid hl
    rw [← hl] at HB0 ⊢
    clear hl
    go_enter Tryz.func49, Tryz.ntmps49
    go_wp2
    go_loopw [5] (fun i wr => ∃ k : Nat, k ≤ u.length ∧ i = .int .i64 k ∧ u.take k = v.take k ∧ Below w.heap.size w wr) (fun i _ => u.length - (RowKit.intOf i).toNat)
    case atStart => exact ⟨0, Nat.zero_le _, rfl, rfl, Below.refl _ _⟩
    case round =>
      obtain ⟨k, hk, rfl, ht, hbr⟩ := hrel
      have HB := Lib.hid hbr
      have HT := Lib.hid ht
      clear ht
      by_cases hlt : k < u.length
      · have hlt' : k < v.length := by have := HL.out; omega
        obtain ⟨b1, o1, rfl, hc1, hlt1, hx1⟩ := HA.out (by omega)
        obtain ⟨b2, o2, rfl, hc2, hlt2, hx2⟩ := HB0.out (by omega)
        have hcell1 := hx1 k _ (intVals_get u k hlt)
        have hcell2 := hx2 k _ (intVals_get v k hlt')
        rw [← hbr.cell (p := ⟨b1, o1 + k, none⟩) hlt1] at hcell1
        rw [← hbr.cell (p := ⟨b2, o2 + k, none⟩) hlt2] at hcell2
        clear hx1 hx2 hbr
        have i1 : (0 : Int) ≤ (k : Int) := by omega
        have i2 : (k : Int) < (u.length : Int) := by omega
        by_cases he : u[k] = v[k]
        · have HE := Lib.hid (takeEqStep hlt hlt' HT.out he)
          rw [← he] at hcell2
          clear he
          go_wp2
          go_quiet (fail)
          go_wp2
          exact ⟨⟨k + 1, by omega, by go_num, HE.out, below_drewN' HB.out _⟩, by simp [RowKit.intOf]; omega⟩
        · have HE := Lib.hid (getNe hlt hlt' he)
          have hne : (u[k] == v[k]) = false := by rw [beq_eq_false_iff_ne]; exact he
          have hne2 : (u[k] != v[k]) = true := by rw [bne_iff_ne]; exact he
          go_wp2
          go_quiet (fail)
          go_wp2
          go_ret
          exact ⟨ret_bool (decide_eq_false HE.out).symm, below_drewN' HB.out _⟩
      · obtain rfl : k = u.length := by omega
        have HE := Lib.hid (takeAllEq HL.out rfl HT.out)
        clear hbr
        go_wp2
        go_ret
        exact ⟨ret_bool (decide_eq_true HE.out).symm, HB.out⟩
  · have HE := Lib.hid (show ¬ u = v from fun e => hl (by rw [e]))
    have hne : ((u.length : Int) == (v.length : Int)) = false := by rw [beq_eq_false_iff_ne]; omega
    have hne2 : ((u.length : Int) != (v.length : Int)) = true := by rw [bne_iff_ne]; omega
    have hne3 : (u.length == v.length) = false := by rw [beq_eq_false_iff_ne]; exact hl
    have hne4 : (u.length != v.length) = true := by rw [bne_iff_ne]; exact hl
    go_enter Tryz.func49, Tryz.ntmps49
    go_wp2
    go_ret
    exact ⟨ret_bool (decide_eq_false HE.out).symm, Below.refl _ _⟩
set_option maxRecDepth 100000 in
set_option maxHeartbeats 800000 in
theorem i_sameP (u v : List Int) (a b : Value) (w : World) (ha : Sl w a (intVals u)) (hb : Sl w b (intVals v)) :
    Calls Tryz.prog 48 #[a, b] w (Quiet w (.bool (decide (u = v)))) := by
  obtain ⟨a, c, rfl, hm, ha⟩ := ha.shape
  obtain ⟨b, d, rfl, _, hb⟩ := hb.shape
  rw [intVals_len] at ha hb hm
  rw [intVals_len, intVals_len]
  unfold maxLen at hm
  have HA := Lib.hid ha
  have HB0 := Lib.hid hb
  clear ha hb
  by_cases hl : u.length = v.length
  · have HL := Lib.hid hl
    rw [← hl] at HB0 ⊢
    clear hl
    go_enter Tryz.func48, Tryz.ntmps48
    go_wp2
    go_loopw [5, 13] (fun _ i wr => ∃ k : Nat, k ≤ u.length ∧ i = .int .i64 k ∧ u.take k = v.take k ∧ Below w.heap.size w wr) (fun _ i _ => u.length - (RowKit.intOf i).toNat)
    case atStart => exact ⟨0, Nat.zero_le _, rfl, rfl, Below.refl _ _⟩
    case round =>
      obtain ⟨k, hk, rfl, ht, hbr⟩ := hrel
      have HB := Lib.hid hbr
      have HT := Lib.hid ht
      clear ht
      by_cases hlt : k < u.length
      · have hlt' : k < v.length := by have := HL.out; omega
        obtain ⟨b1, o1, rfl, hc1, hlt1, hx1⟩ := HA.out (by omega)
        obtain ⟨b2, o2, rfl, hc2, hlt2, hx2⟩ := HB0.out (by omega)
        have hcell1 := hx1 k _ (intVals_get u k hlt)
        have hcell2 := hx2 k _ (intVals_get v k hlt')
        rw [← hbr.cell (p := ⟨b1, o1 + k, none⟩) hlt1] at hcell1
        rw [← hbr.cell (p := ⟨b2, o2 + k, none⟩) hlt2] at hcell2
        clear hx1 hx2 hbr
        have i1 : (0 : Int) ≤ (k : Int) := by omega
        have i2 : (k : Int) < (u.length : Int) := by omega
        by_cases he : u[k] = v[k]
        · have HE := Lib.hid (takeEqStep hlt hlt' HT.out he)
          rw [← he] at hcell2
          clear he
          go_wp2
          go_quiet (fail)
          go_wp2
          exact ⟨⟨k + 1, by omega, by go_num, HE.out, below_drewN' HB.out _⟩, by simp [RowKit.intOf]; omega⟩
        · have HE := Lib.hid (getNe hlt hlt' he)
          have hne : (u[k] == v[k]) = false := by rw [beq_eq_false_iff_ne]; exact he
          have hne2 : (u[k] != v[k]) = true := by rw [bne_iff_ne]; exact he
          go_wp2
          go_quiet (fail)
          go_wp2
          go_ret
          exact ⟨ret_bool (decide_eq_false HE.out).symm, below_drewN' HB.out _⟩
      · obtain rfl : k = u.length := by omega
        have HE := Lib.hid (takeAllEq HL.out rfl HT.out)
        clear hbr
        go_wp2
        go_ret
        exact ⟨ret_bool (decide_eq_true HE.out).symm, HB.out⟩
  · have HE := Lib.hid (show ¬ u = v from fun e => hl (by rw [e]))
    have hne : ((u.length : Int) == (v.length : Int)) = false := by rw [beq_eq_false_iff_ne]; omega
    have hne2 : ((u.length : Int) != (v.length : Int)) = true := by rw [bne_iff_ne]; omega
    have hne3 : (u.length == v.length) = false := by rw [beq_eq_false_iff_ne]; exact hl
    have hne4 : (u.length != v.length) = true := by rw [bne_iff_ne]; exact hl
    go_enter Tryz.func48, Tryz.ntmps48
    go_wp2
    go_ret
    exact ⟨ret_bool (decide_eq_false HE.out).symm, Below.refl _ _⟩
set_option maxRecDepth 100000 in
set_option maxHeartbeats 400000 in
theorem s_lessP (u v : List Int) (hl : u.length = v.length) (hm : u.length ≤ 1048576) (n : Int) (hn : n ≤ 2305843009213693952) (hu : Bd u n) (hv' : Bd v n) (a b : Value) (w : World) (ha : Sl w a (intVals u)) (hb : Sl w b (intVals v)) :
    Calls Tryz.prog 74 #[a, b] w (Made w (lessL u v)) := by
  obtain ⟨a, c, rfl, _, ha⟩ := ha.shape
  obtain ⟨b, d, rfl, _, hb⟩ := hb.shape
  rw [intVals_len] at ha hb
  rw [intVals_len, intVals_len, ← hl]
  rw [← hl] at hb
  obtain ⟨i0, hi, hz0, hz1, hz2⟩ := info_parts info_int'
  have HI := Lib.hid (And.intro hi (And.intro hz0 (And.intro hz1 hz2)))
  have HA := Lib.hid ha
  have HB0 := Lib.hid hb
  have HU := Lib.hid hu
  have HV := Lib.hid hv'
  have HL := Lib.hid hl
  clear ha hb hu hv' hl hi hz0 hz1 hz2
  go_enter Tryz.func74, Tryz.ntmps74
  go_wp2
  go_loopw [5, 6] (fun o i wr => ∃ k : Nat, k ≤ u.length ∧ i = .int .i64 k ∧ wr.ownsRow w.heap.size 3 1 o k (intVals (lessL (u.take k) (v.take k))) ∧ Below w.heap.size w wr) (fun _ i _ => u.length - (RowKit.intOf i).toNat)
  case atStart => exact ⟨0, Nat.zero_le _, rfl, owns_none (Nat.le_refl _), (Below.refl _ _).alloc (Nat.le_refl _) _⟩
  case round =>
    obtain ⟨k, hk, rfl, how, hbr⟩ := hrel
    have HW := Lib.hid how
    have HB := Lib.hid hbr
    by_cases hlt : k < u.length
    · have hlt' : k < v.length := by have := HL.out; omega
      obtain ⟨b1, o1, rfl, hc1, hlt1, hx1⟩ := HA.out (by omega)
      obtain ⟨b2, o2, rfl, hc2, hlt2, hx2⟩ := HB0.out (by omega)
      have hcell1 := hx1 k _ (intVals_get u k hlt)
      have hcell2 := hx2 k _ (intVals_get v k hlt')
      rw [← hbr.cell (p := ⟨b1, o1 + k, none⟩) hlt1] at hcell1
      rw [← hbr.cell (p := ⟨b2, o2 + k, none⟩) hlt2] at hcell2
      clear hx1 hx2 hbr how
      have i1 : (0 : Int) ≤ (k : Int) := by omega
      have i2 : (k : Int) < (u.length : Int) := by omega
      have g1 := (HU.out k hlt).1
      have g2 := (HU.out k hlt).2
      have g3 := (HV.out k hlt').1
      have g4 := (HV.out k hlt').2
      have C1 := Lib.hid (show k + 1 ≤ maxLen by unfold maxLen; omega)
      have C2 := Lib.hid (show (k + 1) * 8 ≤ 140737488355328 by omega)
      have ZT := Lib.hid (zip_take (f := fun x y => x - y) hlt hlt')
      go_wp2
      go_region_held3 (fun w' => w'.cell? ⟨b1, o1 + k, none⟩ = some (.int .i64 u[k]) ∧ w'.cell? ⟨b2, o2 + k, none⟩ = some (.int .i64 v[k]))
        (first | go_keep | (go_split_ands; exact ⟨(hbel.cell hlt1).trans (by assumption), (hbel.cell hlt2).trans (by assumption)⟩))
        ((refine step_app_int (by rfl) _ _ (by rfl) w.heap.size _ k (lessL (u.take k) (v.take k)) _ (by rfl) ((HW.out.alloc _).drew) wr.heap.size (by rfl) (heap_alloc_new wr _) (by omega) (by have := HB.out.size; simp; omega) ?_; intro v' w1 hown1 hbel))
      rename_i hH
      have HO1 := Lib.hid hown1
      have HB1 := Lib.hid ((((HB.out.alloc HB.out.size _).drew).trans hbel))
      clear hown1 hbel hH
      go_wp2
      refine ⟨⟨k + 1, by omega, by go_num, ?_, HB1.out⟩, by simp [RowKit.intOf]; omega⟩
      have h := HO1.out
      rw [IntWalk.i64_in _ (by omega)] at h
      unfold lessL
      rw [ZT.out]
      exact h
    · obtain rfl : k = u.length := by omega
      clear hbr how
      go_wp2
      go_ret
      refine ⟨⟨_, rfl, ?_⟩, HB.out⟩
      have h := OwnV.of_owns HW.out
      rw [List.take_length, HL.out, List.take_length] at h
      exact h
set_option maxRecDepth 100000 in
set_option maxHeartbeats 800000 in
theorem i_addtP (a b c f x y z : Int) (w : World) (ha : -4000000000000000000 ≤ a ∧ a ≤ 4000000000000000000) (hb : -4000000000000000000 ≤ b ∧ b ≤ 4000000000000000000) (hc : -4000000000000000000 ≤ c ∧ c ≤ 4000000000000000000)
    (hx : -4000000000000000000 ≤ f * x ∧ f * x ≤ 4000000000000000000) (hy : -4000000000000000000 ≤ f * y ∧ f * y ≤ 4000000000000000000) (hz : -4000000000000000000 ≤ f * z ∧ f * z ≤ 4000000000000000000) :
    Calls Tryz.prog 62 #[.agg #[.int .i64 a, .int .i64 b, .int .i64 c], .int .i64 f, .agg #[.int .i64 x, .int .i64 y, .int .i64 z]] w (Arr w (a + f * x) (b + f * y) (c + f * z)) := by
  obtain ⟨a1, a2⟩ := ha
  obtain ⟨b1, b2⟩ := hb
  obtain ⟨c1, c2⟩ := hc
  obtain ⟨x1, x2⟩ := hx
  obtain ⟨y1, y2⟩ := hy
  obtain ⟨z1, z2⟩ := hz
  go_enter Tryz.func62, Tryz.ntmps62
  go_wp2
  refine wp_loop_rounds 4 ?_
  rw [rounds_succ]
  go_wp2
  go_region
  go_wp2
  rw [rounds_succ]
  go_wp2
  go_region
  go_wp2
  rw [rounds_succ]
  go_wp2
  go_region
  go_wp2
  rw [rounds_succ]
  go_wp2

  refine bodyPost_ret (v := .agg #[.int .i64 (a + f * x), .int .i64 (b + f * y), .int .i64 (c + f * z)]) ?_ rfl ⟨rfl, ?_⟩
  · simp [results, Tryz.results62, go_sem]
  · exact (((((((Below.refl _ _).alloc (Nat.le_refl _) _).alloc (by simp) _).alloc (by simp; omega) _).drew).drew).drew)
theorem idx3P (x y z : Value) : (∀ w, (Instr.index 43 (.agg #[x, y, z]) (.int .i64 0)).run Tryz.prog w = .ok x w) ∧ (∀ w, (Instr.index 43 (.agg #[x, y, z]) (.int .i64 1)).run Tryz.prog w = .ok y w) ∧ (∀ w, (Instr.index 43 (.agg #[x, y, z]) (.int .i64 2)).run Tryz.prog w = .ok z w) :=
  ⟨fun _ => by kernel_rfl, fun _ => by kernel_rfl, fun _ => by kernel_rfl⟩
/-- A row that was made just now is put into place j of a block without spare cells. -/
theorem OwR.putNew {T e : TypeId} {lo : Nat} {w w2 : World} {zss : List (List Int)} {b n : Nat} (hn : n = zss.length) (h : OwR T e lo w.heap.size w (.slice (some ⟨b, 0, none⟩) n n) zss) (hb : Below w.heap.size w w2) (hlo : lo ≤ w.heap.size) (j : Nat) (hj : j < zss.length) {u : Value} {ys : List Int}
    (hu : OwnV e w.heap.size w2.heap.size w2 u (intVals ys)) : OwR T e lo (w2.setCell ⟨b, j, none⟩ u).heap.size (w2.setCell ⟨b, j, none⟩ u) (.slice (some ⟨b, 0, none⟩) n n) (zss.set j ys) := by
  subst hn
  rw [show (w2.setCell ⟨b, j, none⟩ u).heap.size = w2.heap.size by simp [World.setCell]]
  have h2 := (h.below hb).mono (Nat.le_refl lo) hb.size
  refine h2.put j hj (hu.mono hlo (Nat.le_refl _)) ?_
  intro x hx
  have hxp := (hu.place hx).1
  obtain ⟨b', u', e1, hlb, hbl, hbs, _⟩ := h.at j hj rfl
  simp only [Option.some.injEq, Addr.mk.injEq] at e1
  obtain ⟨rfl, _, _⟩ := e1
  refine ⟨by omega, fun i r hr hrx => ?_⟩
  rw [hb.cell (p := ⟨b, i, none⟩) hbs] at hr
  obtain ⟨vs, k1, k2, k3, k4, k5⟩ := h
  rcases k2 with ⟨k6, _⟩ | ⟨g, cap, cur, e2, k7, k8, k9, k10, k11, k12, k13⟩
  · rw [k6] at k1; simp at k1; omega
  · simp only [Value.slice.injEq, Option.some.injEq, Addr.mk.injEq] at e2
    obtain ⟨⟨rfl, _, _⟩, e3, rfl⟩ := e2
    rw [cell_of_row _ _ _ _ _ _ k9] at hr
    have hcv : cur.toList = vs := by rw [← k13]; exact (List.take_of_length_le (by rw [Array.length_toList, k12]; omega)).symm
    have hv : vs[i]? = some r := by rw [← hcv, Array.getElem?_toList]; exact hr
    have hi := lt_of_get hv
    have hp := (k3 i r _ hv (List.getElem?_eq_getElem (by omega))).place hrx
    omega
def cmpJ (x y : Int) : Int := if x = y then 0 else if x < y then -1 else 1
theorem cmpJ_eq {x y : Int} (h : x = y) : cmpJ x y = 0 := if_pos h
theorem cmpJ_lt {x y : Int} (h : x < y) : cmpJ x y = -1 := by unfold cmpJ; rw [if_neg (by omega), if_pos h]
theorem cmpJ_gt {x y : Int} (h : y < x) : cmpJ x y = 1 := by unfold cmpJ; rw [if_neg (by omega), if_neg (by omega)]
set_option maxRecDepth 100000 in
theorem i_ccmpP (x y : Int) (w : World) : Calls Tryz.prog 95 #[.int .i64 x, .int .i64 y] w fun e w' => e = .returned (.int .i64 (cmpJ x y)) ∧ w = w' := by
  by_cases h1 : x < y
  · have E := Lib.hid (cmpJ_lt h1)
    go_enter Tryz.func95, Tryz.ntmps95
    go_wp2
    go_ret
    exact ⟨ret_int E.out.symm, rfl⟩
  · by_cases h2 : y < x
    · have E := Lib.hid (cmpJ_gt h2)
      go_enter Tryz.func95, Tryz.ntmps95
      go_wp2
      go_ret
      exact ⟨ret_int E.out.symm, rfl⟩
    · have E := Lib.hid (cmpJ_eq (x := x) (y := y) (by omega))
      go_enter Tryz.func95, Tryz.ntmps95
      go_wp2
      go_ret
      exact ⟨ret_int E.out.symm, rfl⟩
end Go.Proofs.YtjijgagdaolkcaaGreat
/- The program's vectorsOf: the first numbers of each element as new rows. -/
namespace Go.Proofs.YtjijgagdaolkcaaGreat
open Go Go.RowKit Go.Lib

/-- Three numbers. -/
abbrev T3 := Int × Int × Int
def rowT (t : T3) : List Int := [t.1, t.2.1, t.2.2]
/-- A slice of arrays of three numbers reads as a list of triples. -/
def Rd3 (w : World) (v : Value) (l : List T3) : Prop :=
  ∃ (a : Option Addr) (c : Nat), v = .slice a l.length c ∧ l.length ≤ c ∧ c ≤ maxLen ∧ ∀ (j : Nat) (hj : j < l.length), ∃ b o : Nat, a = some ⟨b, o, none⟩ ∧ b < w.heap.size ∧
    w.cell? ⟨b, o + j * 3, none⟩ = some (.int .i64 l[j].1) ∧ w.cell? ⟨b, o + j * 3 + 1, none⟩ = some (.int .i64 l[j].2.1) ∧ w.cell? ⟨b, o + j * 3 + 2, none⟩ = some (.int .i64 l[j].2.2)
theorem Rd3.below {w w' : World} {v : Value} {l : List T3} (h : Rd3 w v l) (hb : Below w.heap.size w w') : Rd3 w' v l := by
  obtain ⟨a, c, h1, h2, h3, h4⟩ := h
  refine ⟨a, c, h1, h2, h3, fun j hj => ?_⟩
  obtain ⟨b, o, e, hl, k0, k1, k2⟩ := h4 j hj
  exact ⟨b, o, e, Nat.lt_of_lt_of_le hl hb.size, (hb.cell (p := ⟨b, o + j * 3, none⟩) hl).trans k0, (hb.cell (p := ⟨b, o + j * 3 + 1, none⟩) hl).trans k1, (hb.cell (p := ⟨b, o + j * 3 + 2, none⟩) hl).trans k2⟩
theorem owr_made3 {T e : TypeId} {base : Nat} {w : World} {v : Value} {n : Nat} (h : w.ownsRow base T 1 v n (List.replicate n (.slice none 0 0))) : OwR T e base w.heap.size w v (List.replicate n []) := by
  have key : ∀ (i : Nat) (u : Value), (List.replicate n (Value.slice none 0 0))[i]? = some u → u = .slice none 0 0 := fun i u hu => by
    rw [List.getElem?_replicate] at hu
    split at hu
    · exact (Option.some.inj hu).symm
    · cases hu
  refine ⟨List.replicate n (.slice none 0 0), by simp, OwnV.of_owns h, ?_, ?_, ?_⟩
  · intro i u zs hu hz
    have hz2 : zs = [] := by
      rw [List.getElem?_replicate] at hz
      split at hz
      · exact (Option.some.inj hz).symm
      · cases hz
    rw [key i u hu, hz2]
    exact OwnV.nil
  · intro i j u u' b _ hu _ hub
    rw [key i u hu] at hub
    cases hub
  · intro i u b hu hub
    rw [key i u hu] at hub
    cases hub
theorem made_nils3 (n : Nat) : (madeCells #[Value.slice none 0 0] (n * 1)).toList = List.replicate n (.slice none 0 0) := by
  refine List.ext_getElem? fun i => ?_
  unfold madeCells
  rw [Array.getElem?_toList, Array.getElem?_map, List.getElem?_replicate]
  by_cases hi : i < n
  · simp [hi]
    rw [show i % 1 = 0 by omega]
    rfl
  · simp [hi]
/-- The first n numbers of each. -/
def cutT (n : Nat) (l : List T3) : List (List Int) := l.map fun t => (rowT t).take n
/-- The first k are there, the others nil. -/
def fillT (n : Nat) (l : List T3) (k : Nat) : List (List Int) := cutT n (l.take k) ++ List.replicate (l.length - k) []
theorem fillT_zero (n : Nat) (l : List T3) : fillT n l 0 = List.replicate l.length [] := by simp [fillT, cutT]
theorem fillT_all (n : Nat) (l : List T3) : fillT n l l.length = cutT n l := by simp [fillT]
theorem fillT_len (n : Nat) (l : List T3) (k : Nat) (h : k ≤ l.length) : (fillT n l k).length = l.length := by simp [fillT, cutT]; omega
theorem fillT_step (n : Nat) (l : List T3) (k : Nat) (h : k < l.length) : (fillT n l k).set k ((rowT l[k]).take n) = fillT n l (k + 1) := by
  unfold fillT cutT
  rw [List.set_append_right _ _ (by simp; omega), List.length_map, List.length_take, Nat.min_eq_left (by omega), Nat.sub_self]
  rw [show l.length - k = (l.length - (k + 1)) + 1 by omega, List.replicate_succ, List.set_cons_zero, List.take_succ_eq_append_getElem h, List.map_append]
  simp
theorem bk3t {w : World} {b : Nat} {x y z : Value} {T : TypeId} (h : Bk w b #[x, y, z] T) : w.cell? ⟨b, 0, none⟩ = some x ∧ w.cell? ⟨b, 1, none⟩ = some y ∧ w.cell? ⟨b, 2, none⟩ = some z := ⟨h.cell 0 rfl, h.cell 1 rfl, h.cell 2 rfl⟩
theorem sl_cut1 {w : World} {B : Nat} {x y z : Int} {T : TypeId} (hb : Bk w B #[.int .i64 x, .int .i64 y, .int .i64 z] T) : Sl w (.slice (some ⟨B, 0, none⟩) 1 3) (intVals [x]) := by
  obtain ⟨h0, h1, h2⟩ := bk3t hb
  refine .inr ⟨by simp [intVals], B, 0, 3, by simp [intVals], by simp [intVals], by simp [intVals, maxLen], hb.lt, fun i u hi => ?_⟩
  match i, hi with
  | 0, hi => obtain rfl := Option.some.inj hi; exact h0
  | _ + 1, hi => simp [intVals] at hi
set_option maxRecDepth 100000 in
set_option maxHeartbeats 1600000 in
theorem i_vecs1 (l : List T3) (hlen : l.length ≤ 1048576) (v : Value) (w : World) (hv : Rd3 w v l) :
    Calls Tryz.prog 29 #[v, .int .i64 1] w (MadeR w (cutT 1 l)) := by
  obtain ⟨a, c, rfl, hvc, hvm, hvr⟩ := hv
  have HV := Lib.hid hvr
  unfold maxLen at hvm
  obtain ⟨i0, hi', hz0, hz1, hz2⟩ := info_parts info_row
  clear hvr
  go_enter Tryz.func29, Tryz.ntmps29
  go_wp2_with (at_make; refine wpList_make_full _ rfl _ _ 24 rfl w.heap.size 27 i0 _ 1 Tryz.underlying24 hi' hz0 hz1 .i64 .i64 _ _ l.length rfl rfl rfl rfl (by rw [hz2]; omega) (by unfold maxLen; omega) (by simp) ?_; intro w1 hown hgrow; have hbel : Below w.heap.size w w1 := (Below.refl _ _).grown hgrow (Nat.le_refl _) (fun q hq => by cases hq))
  rw [show (Value.slice none 0 0).cells = #[Value.slice none 0 0] from rfl, made_nils3] at hown
  have O1 := Lib.hid (show OwR 27 3 w.heap.size w1.heap.size w1 (.slice (some ⟨w.heap.size, 0, none⟩) l.length l.length) (fillT 1 l 0) by rw [fillT_zero]; exact owr_made3 hown)
  have B1 := Lib.hid hbel
  clear hown hgrow hbel hi' hz0 hz1 hz2
  go_loopw [13] (fun i wr => ∃ k : Nat, k ≤ l.length ∧ i = .int .i64 k ∧ OwR 27 3 w.heap.size wr.heap.size wr (.slice (some ⟨w.heap.size, 0, none⟩) l.length l.length) (fillT 1 l k) ∧ Below w.heap.size w wr) (fun i _ => l.length - (RowKit.intOf i).toNat)
  case atStart => exact ⟨0, Nat.zero_le _, rfl, O1.out, B1.out⟩
  case round =>
    obtain ⟨k, hk, rfl, ho, hb⟩ := hrel
    have HO := Lib.hid ho
    have HB := Lib.hid hb
    clear ho hb
    by_cases hlt : k < l.length
    · have i1 : (0 : Int) ≤ (k : Int) := by omega
      have i2 : (k : Int) < (l.length : Int) := by omega
      obtain ⟨b, o, rfl, hb2, q0, q1, q2⟩ := HV.out k hlt
      rw [← HB.out.cell (p := ⟨b, o + k * 3, none⟩) hb2] at q0
      rw [← HB.out.cell (p := ⟨b, o + k * 3 + 1, none⟩) hb2] at q1
      rw [← HB.out.cell (p := ⟨b, o + k * 3 + 2, none⟩) hb2] at q2
      have FS := Lib.hid (fillT_step 1 l k hlt)
      have FL := Lib.hid (fillT_len 1 l k hk)
      obtain ⟨x, hx⟩ : ∃ x, l[k] = x := ⟨_, rfl⟩
      rw [hx] at q0 q1 q2 FS
      obtain ⟨x1, x2, x3⟩ := x
      simp only at q0 q1 q2
      rw [show (rowT (x1, x2, x3)).take 1 = [x1] from rfl] at FS
      clear hx
      have KX := Lib.hid (Bk.new wr #[.int .i64 x1, .int .i64 x2, .int .i64 x3] 43)
      have BX := Lib.hid (below1 wr (.cells #[.int .i64 x1, .int .i64 x2, .int .i64 x3] 43))
      have hw : w.heap.size ≤ wr.heap.size := HB.out.size
      go_wp2_with fail
      refine (i_clone [x1] _ 1 3 _ (by simp) (by simp) (sl_cut1 KX.out)).mono ?_
      rintro e w2 ⟨⟨u, rfl, hu⟩, hb2'⟩
      obtain ⟨ga, gc, rfl, _, _⟩ := hu.form (by simp [intVals])
      rw [World.size_alloc] at hu
      have hb3 : Below wr.heap.size wr w2 := BX.out.trans (hb2'.mono BX.out.size)
      have O2 := Lib.hid (OwR.putNew FL.out.symm HO.out hb3 hw k (by rw [FL.out]; exact hlt) (hu.mono (by omega) (Nat.le_refl _)))
      rw [FS.out] at O2
      have B3 := Lib.hid ((HB.out.trans (hb3.mono hw)).setCell (p := ⟨w.heap.size, k, none⟩) (Nat.le_refl _) (.slice (some ⟨ga, 0, none⟩) (intVals [x1]).length gc))
      obtain ⟨b4, u4, e4, _, _, _, hc, hf, _⟩ := (HO.out.below hb3).at k (by rw [FL.out]; exact hlt) rfl
      simp only [Option.some.injEq, Addr.mk.injEq, and_true] at e4
      subst e4
      clear hu hb2' hb3 q0 q1 q2
      go_wp2
      exact ⟨⟨k + 1, by omega, by go_num, O2.out, B3.out⟩, by simp [RowKit.intOf]; omega⟩
    · obtain rfl : k = l.length := by omega
      have h := HO.out
      rw [fillT_all] at h
      have HE := Lib.hid h
      clear h
      go_wp2
      go_ret
      exact ⟨⟨_, rfl, HE.out⟩, HB.out⟩
theorem sl_cut2 {w : World} {B : Nat} {x y z : Int} {T : TypeId} (hb : Bk w B #[.int .i64 x, .int .i64 y, .int .i64 z] T) : Sl w (.slice (some ⟨B, 0, none⟩) 2 3) (intVals [x, y]) := by
  obtain ⟨h0, h1, h2⟩ := bk3t hb
  refine .inr ⟨by simp [intVals], B, 0, 3, by simp [intVals], by simp [intVals], by simp [intVals, maxLen], hb.lt, fun i u hi => ?_⟩
  match i, hi with
  | 0, hi => obtain rfl := Option.some.inj hi; exact h0
  | 1, hi => obtain rfl := Option.some.inj hi; exact h1
  | _ + 2, hi => simp [intVals] at hi
set_option maxRecDepth 100000 in
set_option maxHeartbeats 1600000 in
theorem i_vecs2 (l : List T3) (hlen : l.length ≤ 1048576) (v : Value) (w : World) (hv : Rd3 w v l) :
    Calls Tryz.prog 29 #[v, .int .i64 2] w (MadeR w (cutT 2 l)) := by
  obtain ⟨a, c, rfl, hvc, hvm, hvr⟩ := hv
  have HV := Lib.hid hvr
  unfold maxLen at hvm
  obtain ⟨i0, hi', hz0, hz1, hz2⟩ := info_parts info_row
  clear hvr
  go_enter Tryz.func29, Tryz.ntmps29
  go_wp2_with (at_make; refine wpList_make_full _ rfl _ _ 24 rfl w.heap.size 27 i0 _ 1 Tryz.underlying24 hi' hz0 hz1 .i64 .i64 _ _ l.length rfl rfl rfl rfl (by rw [hz2]; omega) (by unfold maxLen; omega) (by simp) ?_; intro w1 hown hgrow; have hbel : Below w.heap.size w w1 := (Below.refl _ _).grown hgrow (Nat.le_refl _) (fun q hq => by cases hq))
  rw [show (Value.slice none 0 0).cells = #[Value.slice none 0 0] from rfl, made_nils3] at hown
  have O1 := Lib.hid (show OwR 27 3 w.heap.size w1.heap.size w1 (.slice (some ⟨w.heap.size, 0, none⟩) l.length l.length) (fillT 2 l 0) by rw [fillT_zero]; exact owr_made3 hown)
  have B1 := Lib.hid hbel
  clear hown hgrow hbel hi' hz0 hz1 hz2
  go_loopw [13] (fun i wr => ∃ k : Nat, k ≤ l.length ∧ i = .int .i64 k ∧ OwR 27 3 w.heap.size wr.heap.size wr (.slice (some ⟨w.heap.size, 0, none⟩) l.length l.length) (fillT 2 l k) ∧ Below w.heap.size w wr) (fun i _ => l.length - (RowKit.intOf i).toNat)
  case atStart => exact ⟨0, Nat.zero_le _, rfl, O1.out, B1.out⟩
  case round =>
    obtain ⟨k, hk, rfl, ho, hb⟩ := hrel
    have HO := Lib.hid ho
    have HB := Lib.hid hb
    clear ho hb
    by_cases hlt : k < l.length
    · have i1 : (0 : Int) ≤ (k : Int) := by omega
      have i2 : (k : Int) < (l.length : Int) := by omega
      obtain ⟨b, o, rfl, hb2, q0, q1, q2⟩ := HV.out k hlt
      rw [← HB.out.cell (p := ⟨b, o + k * 3, none⟩) hb2] at q0
      rw [← HB.out.cell (p := ⟨b, o + k * 3 + 1, none⟩) hb2] at q1
      rw [← HB.out.cell (p := ⟨b, o + k * 3 + 2, none⟩) hb2] at q2
      have FS := Lib.hid (fillT_step 2 l k hlt)
      have FL := Lib.hid (fillT_len 2 l k hk)
      obtain ⟨x, hx⟩ : ∃ x, l[k] = x := ⟨_, rfl⟩
      rw [hx] at q0 q1 q2 FS
      obtain ⟨x1, x2, x3⟩ := x
      simp only at q0 q1 q2
      rw [show (rowT (x1, x2, x3)).take 2 = [x1, x2] from rfl] at FS
      clear hx
      have KX := Lib.hid (Bk.new wr #[.int .i64 x1, .int .i64 x2, .int .i64 x3] 43)
      have BX := Lib.hid (below1 wr (.cells #[.int .i64 x1, .int .i64 x2, .int .i64 x3] 43))
      have hw : w.heap.size ≤ wr.heap.size := HB.out.size
      go_wp2_with fail
      refine (i_clone [x1, x2] _ 2 3 _ (by simp) (by simp) (sl_cut2 KX.out)).mono ?_
      rintro e w2 ⟨⟨u, rfl, hu⟩, hb2'⟩
      obtain ⟨ga, gc, rfl, _, _⟩ := hu.form (by simp [intVals])
      rw [World.size_alloc] at hu
      have hb3 : Below wr.heap.size wr w2 := BX.out.trans (hb2'.mono BX.out.size)
      have O2 := Lib.hid (OwR.putNew FL.out.symm HO.out hb3 hw k (by rw [FL.out]; exact hlt) (hu.mono (by omega) (Nat.le_refl _)))
      rw [FS.out] at O2
      have B3 := Lib.hid ((HB.out.trans (hb3.mono hw)).setCell (p := ⟨w.heap.size, k, none⟩) (Nat.le_refl _) (.slice (some ⟨ga, 0, none⟩) (intVals [x1, x2]).length gc))
      obtain ⟨b4, u4, e4, _, _, _, hc, hf, _⟩ := (HO.out.below hb3).at k (by rw [FL.out]; exact hlt) rfl
      simp only [Option.some.injEq, Addr.mk.injEq, and_true] at e4
      subst e4
      clear hu hb2' hb3 q0 q1 q2
      go_wp2
      exact ⟨⟨k + 1, by omega, by go_num, O2.out, B3.out⟩, by simp [RowKit.intOf]; omega⟩
    · obtain rfl : k = l.length := by omega
      have h := HO.out
      rw [fillT_all] at h
      have HE := Lib.hid h
      clear h
      go_wp2
      go_ret
      exact ⟨⟨_, rfl, HE.out⟩, HB.out⟩
theorem sl_cut3 {w : World} {B : Nat} {x y z : Int} {T : TypeId} (hb : Bk w B #[.int .i64 x, .int .i64 y, .int .i64 z] T) : Sl w (.slice (some ⟨B, 0, none⟩) 3 3) (intVals [x, y, z]) := by
  obtain ⟨h0, h1, h2⟩ := bk3t hb
  refine .inr ⟨by simp [intVals], B, 0, 3, by simp [intVals], by simp [intVals], by simp [intVals, maxLen], hb.lt, fun i u hi => ?_⟩
  match i, hi with
  | 0, hi => obtain rfl := Option.some.inj hi; exact h0
  | 1, hi => obtain rfl := Option.some.inj hi; exact h1
  | 2, hi => obtain rfl := Option.some.inj hi; exact h2
  | _ + 3, hi => simp [intVals] at hi
set_option maxRecDepth 100000 in
set_option maxHeartbeats 1600000 in
theorem i_vecs3 (l : List T3) (hlen : l.length ≤ 1048576) (v : Value) (w : World) (hv : Rd3 w v l) :
    Calls Tryz.prog 29 #[v, .int .i64 3] w (MadeR w (cutT 3 l)) := by
  obtain ⟨a, c, rfl, hvc, hvm, hvr⟩ := hv
  have HV := Lib.hid hvr
  unfold maxLen at hvm
  obtain ⟨i0, hi', hz0, hz1, hz2⟩ := info_parts info_row
  clear hvr
  go_enter Tryz.func29, Tryz.ntmps29
  go_wp2_with (at_make; refine wpList_make_full _ rfl _ _ 24 rfl w.heap.size 27 i0 _ 1 Tryz.underlying24 hi' hz0 hz1 .i64 .i64 _ _ l.length rfl rfl rfl rfl (by rw [hz2]; omega) (by unfold maxLen; omega) (by simp) ?_; intro w1 hown hgrow; have hbel : Below w.heap.size w w1 := (Below.refl _ _).grown hgrow (Nat.le_refl _) (fun q hq => by cases hq))
  rw [show (Value.slice none 0 0).cells = #[Value.slice none 0 0] from rfl, made_nils3] at hown
  have O1 := Lib.hid (show OwR 27 3 w.heap.size w1.heap.size w1 (.slice (some ⟨w.heap.size, 0, none⟩) l.length l.length) (fillT 3 l 0) by rw [fillT_zero]; exact owr_made3 hown)
  have B1 := Lib.hid hbel
  clear hown hgrow hbel hi' hz0 hz1 hz2
  go_loopw [13] (fun i wr => ∃ k : Nat, k ≤ l.length ∧ i = .int .i64 k ∧ OwR 27 3 w.heap.size wr.heap.size wr (.slice (some ⟨w.heap.size, 0, none⟩) l.length l.length) (fillT 3 l k) ∧ Below w.heap.size w wr) (fun i _ => l.length - (RowKit.intOf i).toNat)
  case atStart => exact ⟨0, Nat.zero_le _, rfl, O1.out, B1.out⟩
  case round =>
    obtain ⟨k, hk, rfl, ho, hb⟩ := hrel
    have HO := Lib.hid ho
    have HB := Lib.hid hb
    clear ho hb
    by_cases hlt : k < l.length
    · have i1 : (0 : Int) ≤ (k : Int) := by omega
      have i2 : (k : Int) < (l.length : Int) := by omega
      obtain ⟨b, o, rfl, hb2, q0, q1, q2⟩ := HV.out k hlt
      rw [← HB.out.cell (p := ⟨b, o + k * 3, none⟩) hb2] at q0
      rw [← HB.out.cell (p := ⟨b, o + k * 3 + 1, none⟩) hb2] at q1
      rw [← HB.out.cell (p := ⟨b, o + k * 3 + 2, none⟩) hb2] at q2
      have FS := Lib.hid (fillT_step 3 l k hlt)
      have FL := Lib.hid (fillT_len 3 l k hk)
      obtain ⟨x, hx⟩ : ∃ x, l[k] = x := ⟨_, rfl⟩
      rw [hx] at q0 q1 q2 FS
      obtain ⟨x1, x2, x3⟩ := x
      simp only at q0 q1 q2
      rw [show (rowT (x1, x2, x3)).take 3 = [x1, x2, x3] from rfl] at FS
      clear hx
      have KX := Lib.hid (Bk.new wr #[.int .i64 x1, .int .i64 x2, .int .i64 x3] 43)
      have BX := Lib.hid (below1 wr (.cells #[.int .i64 x1, .int .i64 x2, .int .i64 x3] 43))
      have hw : w.heap.size ≤ wr.heap.size := HB.out.size
      go_wp2_with fail
      refine (i_clone [x1, x2, x3] _ 3 3 _ (by simp) (by simp) (sl_cut3 KX.out)).mono ?_
      rintro e w2 ⟨⟨u, rfl, hu⟩, hb2'⟩
      obtain ⟨ga, gc, rfl, _, _⟩ := hu.form (by simp [intVals])
      rw [World.size_alloc] at hu
      have hb3 : Below wr.heap.size wr w2 := BX.out.trans (hb2'.mono BX.out.size)
      have O2 := Lib.hid (OwR.putNew FL.out.symm HO.out hb3 hw k (by rw [FL.out]; exact hlt) (hu.mono (by omega) (Nat.le_refl _)))
      rw [FS.out] at O2
      have B3 := Lib.hid ((HB.out.trans (hb3.mono hw)).setCell (p := ⟨w.heap.size, k, none⟩) (Nat.le_refl _) (.slice (some ⟨ga, 0, none⟩) (intVals [x1, x2, x3]).length gc))
      obtain ⟨b4, u4, e4, _, _, _, hc, hf, _⟩ := (HO.out.below hb3).at k (by rw [FL.out]; exact hlt) rfl
      simp only [Option.some.injEq, Addr.mk.injEq, and_true] at e4
      subst e4
      clear hu hb2' hb3 q0 q1 q2
      go_wp2
      exact ⟨⟨k + 1, by omega, by go_num, O2.out, B3.out⟩, by simp [RowKit.intOf]; omega⟩
    · obtain rfl : k = l.length := by omega
      have h := HO.out
      rw [fillT_all] at h
      have HE := Lib.hid h
      clear h
      go_wp2
      go_ret
      exact ⟨⟨_, rfl, HE.out⟩, HB.out⟩
end Go.Proofs.YtjijgagdaolkcaaGreat
/- Lattices, plain: the Hermite form's shape, and the leader of a class. -/
namespace Go.Proofs.YtjijgagdaolkcaaGreat

/-- The six numbers of a Hermite form of three rows. -/
structure H6 where
  d0 : Int
  a : Int
  b : Int
  d1 : Int
  c : Int
  d2 : Int
def H6.rows (h : H6) : List (List Int) := [[h.d0, h.a, h.b], [0, h.d1, h.c], [0, 0, h.d2]]
structure H6.Ok (h : H6) : Prop where
  p0 : 0 < h.d0
  p1 : 0 < h.d1
  p2 : 0 < h.d2
  a0 : 0 ≤ h.a
  a1 : h.a < h.d1
  b0 : 0 ≤ h.b
  b1 : h.b < h.d2
  c0 : 0 ≤ h.c
  c1 : h.c < h.d2
theorem ediv_red (x : Int) {d : Int} (h : 0 < d) : 0 ≤ x - x / d * d ∧ x - x / d * d < d := by
  have h1 := Int.emod_nonneg x (show d ≠ 0 by omega)
  have h2 := Int.emod_lt_of_pos x h
  have h3 := Int.ediv_mul_add_emod x d
  omega
theorem herm3_det {a b z : List Int} (hm : Sq 3 100 [a, b, z]) (hd : detL [a, b, z] ≠ 0) :
    (colA 0 (eucl 0 (eucl 0 a b).1 z).1 * colA 1 (eucl 1 (eucl 0 a b).2 (eucl 0 (eucl 0 a b).1 z).2).1 * colA 2 (eucl 1 (eucl 0 a b).2 (eucl 0 (eucl 0 a b).1 z).2).2).natAbs = (detL [a, b, z]).natAbs ∧
    (eucl 0 (eucl 0 a b).1 z).1.length = 3 ∧ (eucl 1 (eucl 0 a b).2 (eucl 0 (eucl 0 a b).1 z).2).1.length = 3 ∧ (eucl 1 (eucl 0 a b).2 (eucl 0 (eucl 0 a b).1 z).2).2.length = 3 ∧
    colA 1 (eucl 1 (eucl 0 a b).2 (eucl 0 (eucl 0 a b).1 z).2).2 = 0 := by
  have ha := hm.2 0 (by simp)
  have hb := hm.2 1 (by simp)
  have hz := hm.2 2 (by simp)
  simp only [List.getElem_cons_zero, List.getElem_cons_succ] at ha hb hz
  obtain ⟨E1, E2, E3, P0, P1, P2, Z10, Z20⟩ := herm3 hm hd
  have B1 := eucl_bd _ (Nat.le_refl _) E1
  have B2 := eucl_bd _ (Nat.le_refl _) E2
  have B3 := eucl_bd _ (Nat.le_refl _) E3
  have K1 := eucl_keeps (c := 0) (fun u v => detL [u, v, z]) (n := 3) (fun u v q h1 h2 => det3_01 z u v q hz.1 h1 h2) _ (Nat.le_refl _) ha.1 hb.1
  have K2 := eucl_keeps (c := 0) (fun u v => detL [u, (eucl 0 a b).2, v]) (n := 3) (fun u v q h1 h2 => det3_02 (eucl 0 a b).2 u v q B1.2.1 h1 h2) _ (Nat.le_refl _) B1.1 hz.1
  have K3 := eucl_keeps (c := 1) (fun u v => detL [(eucl 0 (eucl 0 a b).1 z).1, u, v]) (n := 3) (fun u v q h1 h2 => det3_12 (eucl 0 (eucl 0 a b).1 z).1 u v q B2.1 h1 h2) _ (Nat.le_refl _) B1.2.1 B2.2.1
  try simp only at K1 K2 K3
  rw [det3_up B2.1 B3.1 B3.2.1 Z10 Z20 B3.2.2.2.2.1] at K3
  exact ⟨by omega, B2.1, B3.1, B3.2.1, B3.2.2.2.2.1⟩
theorem negr_abs {c : Nat} {u : List Int} : (colA c (negr c u)).natAbs = (colA c u).natAbs := by
  unfold negr; split
  · rw [colA_scale]; simp
  · rfl
theorem three_of {u : List Int} (h : u.length = 3) : u = [colA 0 u, colA 1 u, colA 2 u] := by
  obtain ⟨x, y, z, rfl⟩ := list3 h; rfl
/-- The Hermite form of three rows: zeros below, positive numbers on the diagonal, what is above each is reduced; the diagonal's product is the determinant's size. -/
theorem herm_form {P : List (List Int)} (hl : P.length = 3) (hsq : Sq 3 100 P) (hd : detL P ≠ 0) : ∃ h : H6, hermL P = h.rows ∧ h.Ok ∧ h.d0 * h.d1 * h.d2 = ((detL P).natAbs : Int) := by
  obtain ⟨a, b, z, rfl⟩ := list3 hl
  obtain ⟨E1, E2, E3, P0, P1, P2, Z10, Z20⟩ := herm3 hsq hd
  obtain ⟨D, L1, L2, L3, Z21⟩ := herm3_det hsq hd
  have z0 : pairsH 0 (hermS [a, b, z] 0) 2 = [(eucl 0 (eucl 0 a b).1 z).1, (eucl 0 a b).2, (eucl 0 (eucl 0 a b).1 z).2] := rfl
  have z1 : hermS [a, b, z] 1 = [negr 0 (eucl 0 (eucl 0 a b).1 z).1, (eucl 0 a b).2, (eucl 0 (eucl 0 a b).1 z).2] := by
    show negH 0 (pairsH 0 (hermS [a, b, z] 0) 2) = _
    rw [z0, negH_eq _ _ (by simp)]; rfl
  have z1p : pairsH 1 (hermS [a, b, z] 1) 1 = [negr 0 (eucl 0 (eucl 0 a b).1 z).1, (eucl 1 (eucl 0 a b).2 (eucl 0 (eucl 0 a b).1 z).2).1, (eucl 1 (eucl 0 a b).2 (eucl 0 (eucl 0 a b).1 z).2).2] := by rw [z1]; rfl
  have h3 : hermL [a, b, z] = redsH 2 (negH 2 (redsH 1 (negH 1 (pairsH 1 (hermS [a, b, z] 1) 1)) 1)) 2 := rfl
  rw [h3, z1p]
  generalize eucl 0 a b = F1 at *
  generalize eucl 0 F1.1 z = F2 at *
  generalize eucl 1 F1.2 F2.2 = F3 at *
  have q1 := negr_pos (c := 1) P1
  have q0 := negr_pos (c := 0) P0
  have q2 := negr_pos (c := 2) P2
  have n0 := negr_abs (c := 0) (u := F2.1)
  have n1 := negr_abs (c := 1) (u := F3.1)
  have n2 := negr_abs (c := 2) (u := F3.2)
  have k0 : (negr 0 F2.1).length = 3 := by rw [negr_len, L1]
  have k1 : (negr 1 F3.1).length = 3 := by rw [negr_len, L2]
  have k2 : (negr 2 F3.2).length = 3 := by rw [negr_len, L3]
  have m10 := negr_zero (c := 1) Z10
  have m20 := negr_zero (c := 2) Z20
  have m21 := negr_zero (c := 2) Z21
  have e1 : redsH 1 (negH 1 [negr 0 F2.1, F3.1, F3.2]) 1 = [lessL (negr 0 F2.1) (scaleL (negr 1 F3.1) (colA 1 (negr 0 F2.1) / colA 1 (negr 1 F3.1))), negr 1 F3.1, F3.2] := by rw [negH_eq _ _ (by simp)]; rfl
  rw [e1, negH_eq _ _ (by simp)]
  rw [show ([lessL (negr 0 F2.1) (scaleL (negr 1 F3.1) (colA 1 (negr 0 F2.1) / colA 1 (negr 1 F3.1))), negr 1 F3.1, F3.2] : List (List Int)).getD 2 [] = F3.2 from rfl]
  rw [List.set_cons_succ, List.set_cons_succ, List.set_cons_zero]
  clear e1
  generalize negr 0 F2.1 = N0 at *
  generalize negr 1 F3.1 = N1 at *
  generalize negr 2 F3.2 = N2 at *
  obtain ⟨x0, x1, x2, rfl⟩ := list3 k0
  obtain ⟨y0, y1, y2, rfl⟩ := list3 k1
  obtain ⟨w0, w1, w2, rfl⟩ := list3 k2
  generalize hA : colA 0 F2.1 = A at *
  generalize hB : colA 1 F3.1 = B at *
  generalize hC : colA 2 F3.2 = C at *
  have v0 : colA 0 [x0, x1, x2] = x0 := rfl
  have v1 : colA 1 [y0, y1, y2] = y1 := rfl
  have v2 : colA 2 [w0, w1, w2] = w2 := rfl
  obtain rfl : y0 = 0 := m10
  obtain rfl : w0 = 0 := m20
  obtain rfl : w1 = 0 := m21
  rw [v0] at q0 n0
  rw [v1] at q1 n1
  rw [v2] at q2 n2
  have r1 := ediv_red x1 q1
  refine ⟨⟨x0, x1 - x1 / y1 * y1, (x2 - y2 * (x1 / y1)) - (x2 - y2 * (x1 / y1)) / w2 * w2, y1, y2 - y2 / w2 * w2, w2⟩, ?_, ⟨q0, q1, q2, r1.1, r1.2, (ediv_red _ q2).1, (ediv_red _ q2).2, (ediv_red _ q2).1, (ediv_red _ q2).2⟩, ?_⟩
  · simp [redsH, redH, lessL, scaleL, colA, H6.rows, Int.mul_comm]
  · rw [← D, Int.natAbs_mul, Int.natAbs_mul, ← n0, ← n1, ← n2]
    have h1 := Int.mul_pos (Int.mul_pos q0 q1) q2
    simp only [← Int.natAbs_mul]
    omega

/-- The leader of a class. -/
def leadT (h : H6) (t : T3) : T3 :=
  let q0 := t.1 / h.d0
  let y := t.2.1 - q0 * h.a
  let z := t.2.2 - q0 * h.b
  let q1 := y / h.d1
  let z' := z - q1 * h.c
  (t.1 - q0 * h.d0, y - q1 * h.d1, z' - z' / h.d2 * h.d2)
structure InT (h : H6) (t : T3) : Prop where
  x0 : 0 ≤ t.1
  x1 : t.1 < h.d0
  y0 : 0 ≤ t.2.1
  y1 : t.2.1 < h.d1
  z0 : 0 ≤ t.2.2
  z1 : t.2.2 < h.d2
theorem lead_in {h : H6} (k : h.Ok) (t : T3) : InT h (leadT h t) :=
  ⟨(ediv_red _ k.p0).1, (ediv_red _ k.p0).2, (ediv_red _ k.p1).1, (ediv_red _ k.p1).2, (ediv_red _ k.p2).1, (ediv_red _ k.p2).2⟩
theorem lead_self {h : H6} {t : T3} (i : InT h t) : leadT h t = t := by
  obtain ⟨x, y, z⟩ := t
  have e0 : x / h.d0 = 0 := Int.ediv_eq_zero_of_lt i.x0 i.x1
  have e1 : y / h.d1 = 0 := Int.ediv_eq_zero_of_lt i.y0 i.y1
  have e2 : z / h.d2 = 0 := Int.ediv_eq_zero_of_lt i.z0 i.z1
  simp [leadT, e0, e1, e2]

/-- All leaders, in order. -/
def boxT (h : H6) : List T3 := (List.range h.d0.toNat).flatMap fun (x : Nat) => (List.range h.d1.toNat).flatMap fun (y : Nat) => (List.range h.d2.toNat).map fun (z : Nat) => (((x : Int), (y : Int), (z : Int)) : T3)
theorem mem_boxT {h : H6} {t : T3} : t ∈ boxT h ↔ InT h t := by
  obtain ⟨x, y, z⟩ := t
  simp only [boxT, List.mem_flatMap, List.mem_range, List.mem_map, Prod.mk.injEq]
  constructor
  · rintro ⟨i, hi, j, hj, k, hk, rfl, rfl, rfl⟩
    exact ⟨by simp, by simp; omega, by simp, by simp; omega, by simp, by simp; omega⟩
  · rintro ⟨x0, x1, y0, y1, z0, z1⟩
    simp only at x0 x1 y0 y1 z0 z1
    exact ⟨x.toNat, by omega, y.toNat, by omega, z.toNat, by omega, by omega, by omega, by omega⟩
theorem sum_const {α : Type} (f : α → Nat) (n : Nat) : ∀ (l : List α), (∀ x ∈ l, f x = n) → (l.map f).sum = l.length * n
  | [], _ => by simp
  | x :: l, h => by rw [List.map_cons, List.sum_cons, sum_const f n l (fun y hy => h y (by simp [hy])), h x (by simp), List.length_cons, Nat.succ_mul]; omega
theorem boxT_len (h : H6) : (boxT h).length = h.d0.toNat * (h.d1.toNat * h.d2.toNat) := by
  unfold boxT
  rw [List.length_flatMap, sum_const _ (h.d1.toNat * h.d2.toNat), List.length_range]
  intro x _
  rw [List.length_flatMap, sum_const _ h.d2.toNat, List.length_range]
  intro y _
  simp
/-- Triples in order. -/
def ltT (a b : T3) : Prop := a.1 < b.1 ∨ (a.1 = b.1 ∧ (a.2.1 < b.2.1 ∨ (a.2.1 = b.2.1 ∧ a.2.2 < b.2.2)))
theorem pw_flat {α β : Type} {R : β → β → Prop} {f : α → List β} : ∀ {l : List α}, (∀ x ∈ l, (f x).Pairwise R) → l.Pairwise (fun x y => ∀ a ∈ f x, ∀ b ∈ f y, R a b) → (l.flatMap f).Pairwise R
  | [], _, _ => by simp
  | x :: l, h1, h2 => by
    obtain ⟨h3, h4⟩ := List.pairwise_cons.1 h2
    rw [List.flatMap_cons, List.pairwise_append]
    refine ⟨h1 x (by simp), pw_flat (fun y hy => h1 y (by simp [hy])) h4, fun a ha b hb => ?_⟩
    obtain ⟨y, hy, hby⟩ := List.mem_flatMap.1 hb
    exact h3 y hy a ha b hby
theorem boxT_sorted (h : H6) : (boxT h).Pairwise ltT := by
  refine pw_flat (fun x _ => pw_flat (fun y _ => ?_) ?_) ?_
  · rw [List.pairwise_map]
    exact (List.pairwise_lt_range).imp (fun {a b} hab => .inr ⟨rfl, .inr ⟨rfl, by simpa using hab⟩⟩)
  · refine (List.pairwise_lt_range).imp (fun {y y'} hy a ha b hb => ?_)
    obtain ⟨i, _, rfl⟩ := List.mem_map.1 ha
    obtain ⟨j, _, rfl⟩ := List.mem_map.1 hb
    exact .inr ⟨rfl, .inl (by simpa using hy)⟩
  · refine (List.pairwise_lt_range).imp (fun {x x'} hx a ha b hb => ?_)
    obtain ⟨y, _, ha'⟩ := List.mem_flatMap.1 ha
    obtain ⟨i, _, rfl⟩ := List.mem_map.1 ha'
    obtain ⟨y', _, hb'⟩ := List.mem_flatMap.1 hb
    obtain ⟨j, _, rfl⟩ := List.mem_map.1 hb'
    exact .inl (by simpa using hx)
theorem ltT_irrefl (a : T3) : ¬ ltT a a := by unfold ltT; omega
theorem ltT_trans {a b c : T3} (h : ltT a b) (k : ltT b c) : ltT a c := by unfold ltT at *; omega
theorem boxT_nodup (h : H6) : (boxT h).Nodup := by
  refine List.Pairwise.imp (R := ltT) ?_ (boxT_sorted h)
  intro a b hab e
  rw [e] at hab
  exact ltT_irrefl b hab
/-- Two lists in order with the same members are one. -/
theorem sorted_ext : ∀ {l l' : List T3}, l.Pairwise ltT → l'.Pairwise ltT → (∀ t, t ∈ l ↔ t ∈ l') → l = l'
  | [], [], _, _, _ => rfl
  | [], y :: l', _, _, h => by have := (h y).2 (by simp); simp at this
  | x :: l, [], _, _, h => by have := (h x).1 (by simp); simp at this
  | x :: l, y :: l', h1, h2, h => by
    obtain ⟨p1, p2⟩ := List.pairwise_cons.1 h1
    obtain ⟨q1, q2⟩ := List.pairwise_cons.1 h2
    have hxy : x = y := by
      rcases List.mem_cons.1 ((h x).1 (by simp)) with e | e
      · exact e
      · rcases List.mem_cons.1 ((h y).2 (by simp)) with e2 | e2
        · exact e2.symm
        · exact absurd (ltT_trans (p1 y e2) (q1 x e)) (ltT_irrefl x)
    subst hxy
    refine congrArg _ (sorted_ext p2 q2 fun t => ⟨fun ht => ?_, fun ht => ?_⟩)
    · rcases List.mem_cons.1 ((h t).1 (by simp [ht])) with e | e
      · subst e; exact absurd (p1 t ht) (ltT_irrefl t)
      · exact e
    · rcases List.mem_cons.1 ((h t).2 (by simp [ht])) with e | e
      · subst e; exact absurd (q1 t ht) (ltT_irrefl t)
      · exact e
/-- A step along an axis. -/
def upT (t : T3) (k : Nat) : T3 := if k = 0 then (t.1 + 1, t.2.1, t.2.2) else if k = 1 then (t.1, t.2.1 + 1, t.2.2) else (t.1, t.2.1, t.2.2 + 1)
/-- What is reached from 0,0,0 by steps along the axes, each followed by the leader, is every leader. -/
theorem reach_all {h : H6} (k : h.Ok) {S : T3 → Prop} (h0 : S (leadT h (0, 0, 0))) (hs : ∀ t, S t → ∀ j, j < 3 → S (leadT h (upT t j))) : ∀ t, InT h t → S t := by
  have hz : S (0, 0, 0) := by
    rw [lead_self ⟨by simp, by simpa using k.p0, by simp, by simpa using k.p1, by simp, by simpa using k.p2⟩] at h0; exact h0
  have hx : ∀ n : Nat, (n : Int) < h.d0 → S (n, 0, 0) := by
    intro n
    induction n with
    | zero => intro _; exact hz
    | succ n ih =>
      intro hn
      have := hs _ (ih (by omega)) 0 (by omega)
      rw [lead_self ⟨by simp [upT]; omega, by simp [upT]; omega, by simp [upT], by simpa [upT] using k.p1, by simp [upT], by simpa [upT] using k.p2⟩] at this
      simpa [upT] using this
  have hy : ∀ (x n : Nat), (x : Int) < h.d0 → (n : Int) < h.d1 → S (x, n, 0) := by
    intro x n hxd
    induction n with
    | zero => intro _; exact hx x hxd
    | succ n ih =>
      intro hn
      have := hs _ (ih (by omega)) 1 (by omega)
      rw [lead_self ⟨by simp [upT], by simp [upT]; omega, by simp [upT]; omega, by simp [upT]; omega, by simp [upT], by simpa [upT] using k.p2⟩] at this
      simpa [upT] using this
  have hw : ∀ (x y n : Nat), (x : Int) < h.d0 → (y : Int) < h.d1 → (n : Int) < h.d2 → S (x, y, n) := by
    intro x y n hxd hyd
    induction n with
    | zero => intro _; exact hy x y hxd hyd
    | succ n ih =>
      intro hn
      have := hs _ (ih (by omega)) 2 (by omega)
      rw [lead_self ⟨by simp [upT], by simp [upT]; omega, by simp [upT], by simp [upT]; omega, by simp [upT]; omega, by simp [upT]; omega⟩] at this
      simpa [upT] using this
  rintro ⟨x, y, z⟩ ⟨x0, x1, y0, y1, z0, z1⟩
  simp only at x0 x1 y0 y1 z0 z1
  obtain ⟨i, rfl⟩ := Int.eq_ofNat_of_zero_le x0
  obtain ⟨j, rfl⟩ := Int.eq_ofNat_of_zero_le y0
  obtain ⟨l, rfl⟩ := Int.eq_ofNat_of_zero_le z0
  exact hw i j l x1 y1 z1
end Go.Proofs.YtjijgagdaolkcaaGreat
/- Lattices, plain: the rows of a matrix lie in the lattice of its Hermite form; a class has one leader. -/
namespace Go.Proofs.YtjijgagdaolkcaaGreat

/-- A row that is a sum of multiples of three rows. -/
def Span (r0 r1 r2 u : List Int) : Prop := ∃ c0 c1 c2 : Int, ∀ d, colA d u = c0 * colA d r0 + c1 * colA d r1 + c2 * colA d r2
theorem Span.comb {r0 r1 r2 u v w : List Int} {p q : Int} (h : Span r0 r1 r2 u) (k : Span r0 r1 r2 v) (e : ∀ d, colA d w = p * colA d u + q * colA d v) : Span r0 r1 r2 w := by
  obtain ⟨c0, c1, c2, h⟩ := h
  obtain ⟨e0, e1, e2, k⟩ := k
  refine ⟨p * c0 + q * e0, p * c1 + q * e1, p * c2 + q * e2, fun d => ?_⟩
  rw [e, h, k]
  grind
theorem colA_less {u v : List Int} (h : u.length = v.length) (q : Int) (d : Nat) : colA d (lessL u (scaleL v q)) = colA d u - q * colA d v := by
  by_cases hd : d < u.length
  · rw [colA_get (by rw [lessL_len (by simp [scaleL, h])]; exact hd), colA_get hd, colA_get (by omega)]
    simp only [lessL, scaleL, List.getElem_zipWith, List.getElem_map]
    rw [Int.mul_comm]
  · rw [colA_out (by rw [lessL_len (by simp [scaleL, h])]; omega), colA_out (by omega), colA_out (u := v) (by omega)]; simp
theorem eucl_span {c : Nat} : ∀ (k : Nat) {u v : List Int}, (colA c v).natAbs ≤ k → u.length = v.length →
    ∃ p q r s : Int, ∀ d, colA d u = p * colA d (eucl c u v).1 + q * colA d (eucl c u v).2 ∧ colA d v = r * colA d (eucl c u v).1 + s * colA d (eucl c u v).2 := by
  intro k
  induction k with
  | zero => intro u v hk _; rw [eucl_end (by omega)]; exact ⟨1, 0, 0, 1, fun d => by simp⟩
  | succ k ih =>
    intro u v hk hl
    by_cases h0 : colA c v = 0
    · rw [eucl_end h0]; exact ⟨1, 0, 0, 1, fun d => by simp⟩
    · rw [eucl_step hl h0]
      obtain ⟨p, q, r, s, hh⟩ := ih (u := v) (v := nextR c u v) (by
        rw [nextR_col hl, Int.natAbs_tmod]
        have := Nat.mod_lt (colA c u).natAbs (show 0 < (colA c v).natAbs by omega)
        omega) (by rw [nextR_len hl, hl])
      generalize (eucl c v (nextR c u v)) = E at hh
      refine ⟨r + (colA c u).tdiv (colA c v) * p, s + (colA c u).tdiv (colA c v) * q, p, q, fun d => ⟨?_, (hh d).1⟩⟩
      have h1 := (hh d).1
      have h2 := (hh d).2
      rw [nextR_at hl] at h2
      grind
theorem negr_span (c : Nat) (u : List Int) : ∃ p : Int, ∀ d, colA d u = p * colA d (negr c u) := by
  unfold negr
  split
  · exact ⟨-1, fun d => by rw [colA_scale]; omega⟩
  · exact ⟨1, fun d => by simp⟩
theorem Span.one {r0 r1 r2 u v : List Int} {p : Int} (h : Span r0 r1 r2 v) (e : ∀ d, colA d u = p * colA d v) : Span r0 r1 r2 u := h.comb h (p := p) (q := 0) (fun d => by rw [e d]; simp)

/-- The rows of a matrix are sums of multiples of the rows of its Hermite form. -/
theorem herm_span {P : List (List Int)} (hl : P.length = 3) (hsq : Sq 3 100 P) (hd : detL P ≠ 0) : ∃ r0 r1 r2, hermL P = [r0, r1, r2] ∧ ∀ u ∈ P, Span r0 r1 r2 u := by
  obtain ⟨a, b, z, rfl⟩ := list3 hl
  have ha := hsq.2 0 (by simp)
  have hb := hsq.2 1 (by simp)
  have hz := hsq.2 2 (by simp)
  simp only [List.getElem_cons_zero, List.getElem_cons_succ] at ha hb hz
  obtain ⟨E1, E2, E3, _⟩ := herm3 hsq hd
  obtain ⟨_, L1, L2, L3, _⟩ := herm3_det hsq hd
  have S1 := eucl_span (c := 0) _ (Nat.le_refl _) (show a.length = b.length by rw [ha.1, hb.1])
  have S2 := eucl_span (c := 0) _ (Nat.le_refl _) (show (eucl 0 a b).1.length = z.length by rw [(eucl_bd _ (Nat.le_refl _) E1).1, hz.1])
  have S3 := eucl_span (c := 1) _ (Nat.le_refl _) (show (eucl 0 a b).2.length = (eucl 0 (eucl 0 a b).1 z).2.length by rw [(eucl_bd _ (Nat.le_refl _) E1).2.1, (eucl_bd _ (Nat.le_refl _) E2).2.1])
  have z0 : pairsH 0 (hermS [a, b, z] 0) 2 = [(eucl 0 (eucl 0 a b).1 z).1, (eucl 0 a b).2, (eucl 0 (eucl 0 a b).1 z).2] := rfl
  have z1 : hermS [a, b, z] 1 = [negr 0 (eucl 0 (eucl 0 a b).1 z).1, (eucl 0 a b).2, (eucl 0 (eucl 0 a b).1 z).2] := by
    show negH 0 (pairsH 0 (hermS [a, b, z] 0) 2) = _
    rw [z0, negH_eq _ _ (by simp)]; rfl
  have z1p : pairsH 1 (hermS [a, b, z] 1) 1 = [negr 0 (eucl 0 (eucl 0 a b).1 z).1, (eucl 1 (eucl 0 a b).2 (eucl 0 (eucl 0 a b).1 z).2).1, (eucl 1 (eucl 0 a b).2 (eucl 0 (eucl 0 a b).1 z).2).2] := by rw [z1]; rfl
  have h3 : hermL [a, b, z] = redsH 2 (negH 2 (redsH 1 (negH 1 (pairsH 1 (hermS [a, b, z] 1) 1)) 1)) 2 := rfl
  rw [h3, z1p]
  generalize eucl 0 a b = F1 at *
  generalize eucl 0 F1.1 z = F2 at *
  generalize eucl 1 F1.2 F2.2 = F3 at *
  have k0 : (negr 0 F2.1).length = 3 := by rw [negr_len, L1]
  have k1 : (negr 1 F3.1).length = 3 := by rw [negr_len, L2]
  have k2 : (negr 2 F3.2).length = 3 := by rw [negr_len, L3]
  have e1 : redsH 1 (negH 1 [negr 0 F2.1, F3.1, F3.2]) 1 = [lessL (negr 0 F2.1) (scaleL (negr 1 F3.1) (colA 1 (negr 0 F2.1) / colA 1 (negr 1 F3.1))), negr 1 F3.1, F3.2] := by rw [negH_eq _ _ (by simp)]; rfl
  rw [e1, negH_eq _ _ (by simp)]
  rw [show ([lessL (negr 0 F2.1) (scaleL (negr 1 F3.1) (colA 1 (negr 0 F2.1) / colA 1 (negr 1 F3.1))), negr 1 F3.1, F3.2] : List (List Int)).getD 2 [] = F3.2 from rfl]
  rw [List.set_cons_succ, List.set_cons_succ, List.set_cons_zero]
  obtain ⟨g0, N0⟩ := negr_span 0 F2.1
  obtain ⟨g1, N1⟩ := negr_span 1 F3.1
  obtain ⟨g2, N2⟩ := negr_span 2 F3.2
  generalize negr 0 F2.1 = X0 at *
  generalize negr 1 F3.1 = X1 at *
  generalize negr 2 F3.2 = X2 at *
  have kR : ∀ q, (lessL X0 (scaleL X1 q)).length = 3 := fun q => by rw [lessL_len (by simp [scaleL, k0, k1]), k0]
  have cR := colA_less (u := X0) (v := X1) (k0.trans k1.symm)
  generalize hR : lessL X0 (scaleL X1 (colA 1 X0 / colA 1 X1)) = R
  have kR1 : R.length = 3 := by rw [← hR]; exact kR _
  have cR1 := cR (colA 1 X0 / colA 1 X1)
  rw [hR] at cR1
  refine ⟨lessL R (scaleL X2 (colA 2 R / colA 2 X2)), lessL X1 (scaleL X2 (colA 2 X1 / colA 2 X2)), X2, rfl, ?_⟩
  have c0 := colA_less (u := R) (v := X2) (kR1.trans k2.symm) (colA 2 R / colA 2 X2)
  have c1 := colA_less (u := X1) (v := X2) (k1.trans k2.symm) (colA 2 X1 / colA 2 X2)
  generalize lessL R (scaleL X2 (colA 2 R / colA 2 X2)) = H0 at *
  generalize lessL X1 (scaleL X2 (colA 2 X1 / colA 2 X2)) = H1 at *
  have s2 : Span H0 H1 X2 X2 := ⟨0, 0, 1, fun d => by simp⟩
  have s1 : Span H0 H1 X2 H1 := ⟨0, 1, 0, fun d => by simp⟩
  have s0 : Span H0 H1 X2 H0 := ⟨1, 0, 0, fun d => by simp⟩
  have sR : Span H0 H1 X2 R := s0.comb s2 (p := 1) (q := colA 2 R / colA 2 X2) (fun d => by rw [c0]; omega)
  have sX1 : Span H0 H1 X2 X1 := s1.comb s2 (p := 1) (q := colA 2 X1 / colA 2 X2) (fun d => by rw [c1]; omega)
  have sX0 : Span H0 H1 X2 X0 := sR.comb sX1 (p := 1) (q := colA 1 X0 / colA 1 X1) (fun d => by rw [cR1]; omega)
  have t0 := sX0.one N0
  have t1 := sX1.one N1
  have t2 := s2.one N2
  obtain ⟨p1, q1, r1, u1, S1⟩ := S1
  obtain ⟨p2, q2, r2, u2, S2⟩ := S2
  obtain ⟨p3, q3, r3, u3, S3⟩ := S3
  have w12 := t1.comb t2 (fun d => (S3 d).1)
  have w22 := t1.comb t2 (fun d => (S3 d).2)
  have w11 := t0.comb w22 (fun d => (S2 d).1)
  have wz := t0.comb w22 (fun d => (S2 d).2)
  have wa := w11.comb w12 (fun d => (S1 d).1)
  have wb := w11.comb w12 (fun d => (S1 d).2)
  intro u hu
  simp only [List.mem_cons, List.not_mem_nil, or_false] at hu
  rcases hu with rfl | rfl | rfl
  · exact wa
  · exact wb
  · exact wz

/-- Two triples are in one class of the rows. -/
def Cls (r0 r1 r2 : List Int) (s t : T3) : Prop := ∃ c0 c1 c2 : Int, ∀ d, colA d (rowT s) = colA d (rowT t) + (c0 * colA d r0 + c1 * colA d r1 + c2 * colA d r2)
theorem Cls.refl (r0 r1 r2 : List Int) (t : T3) : Cls r0 r1 r2 t t := ⟨0, 0, 0, fun d => by simp⟩
theorem Cls.symm {r0 r1 r2 : List Int} {s t : T3} (h : Cls r0 r1 r2 s t) : Cls r0 r1 r2 t s := by
  obtain ⟨c0, c1, c2, h⟩ := h
  exact ⟨-c0, -c1, -c2, fun d => by have := h d; grind⟩
theorem Cls.trans {r0 r1 r2 : List Int} {s t u : T3} (h : Cls r0 r1 r2 s t) (k : Cls r0 r1 r2 t u) : Cls r0 r1 r2 s u := by
  obtain ⟨c0, c1, c2, h⟩ := h
  obtain ⟨e0, e1, e2, k⟩ := k
  exact ⟨c0 + e0, c1 + e1, c2 + e2, fun d => by have := h d; have := k d; grind⟩
/-- A coarser lattice's classes. -/
theorem Cls.of_span {r0 r1 r2 s0 s1 s2 : List Int} (h0 : Span s0 s1 s2 r0) (h1 : Span s0 s1 s2 r1) (h2 : Span s0 s1 s2 r2) {s t : T3} (h : Cls r0 r1 r2 s t) : Cls s0 s1 s2 s t := by
  obtain ⟨c0, c1, c2, h⟩ := h
  obtain ⟨x0, x1, x2, h0⟩ := h0
  obtain ⟨y0, y1, y2, h1⟩ := h1
  obtain ⟨z0, z1, z2, h2⟩ := h2
  refine ⟨c0 * x0 + c1 * y0 + c2 * z0, c0 * x1 + c1 * y1 + c2 * z1, c0 * x2 + c1 * y2 + c2 * z2, fun d => ?_⟩
  have := h d; have := h0 d; have := h1 d; have := h2 d
  grind
theorem mul_small {c d x y : Int} (x0 : 0 ≤ x) (x1 : x < d) (y0 : 0 ≤ y) (y1 : y < d) (e : x = y + c * d) : c = 0 := by
  rcases Int.lt_trichotomy c 0 with h | h | h
  · have : c * d ≤ -1 * d := Int.mul_le_mul_of_nonneg_right (by omega) (by omega)
    omega
  · exact h
  · have : 1 * d ≤ c * d := Int.mul_le_mul_of_nonneg_right (by omega) (by omega)
    omega
/-- A class of a Hermite form has one leader. -/
theorem lead_one {h : H6} {s t : T3} (i : InT h s) (j : InT h t) (c : Cls [h.d0, h.a, h.b] [0, h.d1, h.c] [0, 0, h.d2] s t) : s = t := by
  obtain ⟨c0, c1, c2, c⟩ := c
  have e0 := c 0
  have e1 := c 1
  have e2 := c 2
  obtain ⟨x, y, z⟩ := s
  obtain ⟨x', y', z'⟩ := t
  obtain ⟨x0, x1, y0, y1, z0, z1⟩ := i
  obtain ⟨u0, u1, v0, v1, w0, w1⟩ := j
  simp only [colA, rowT, List.getD_cons_zero, List.getD_cons_succ, Int.mul_zero, Int.add_zero] at e0 e1 e2 x0 x1 y0 y1 z0 z1 u0 u1 v0 v1 w0 w1
  obtain rfl := mul_small x0 x1 u0 u1 e0
  simp only [Int.zero_mul, Int.zero_add, Int.add_zero] at e0 e1 e2
  obtain rfl := mul_small y0 y1 v0 v1 e1
  simp only [Int.zero_mul, Int.zero_add, Int.add_zero] at e0 e1 e2
  obtain rfl := mul_small z0 z1 w0 w1 e2
  simp only [Int.zero_mul, Int.add_zero] at e0 e1 e2
  rw [e0, e1, e2]
theorem lead_cls (h : H6) (t : T3) : Cls [h.d0, h.a, h.b] [0, h.d1, h.c] [0, 0, h.d2] t (leadT h t) := by
  obtain ⟨x, y, z⟩ := t
  refine ⟨x / h.d0, (y - x / h.d0 * h.a) / h.d1, (z - x / h.d0 * h.b - (y - x / h.d0 * h.a) / h.d1 * h.c) / h.d2, fun d => ?_⟩
  match d with
  | 0 => simp [colA, rowT, leadT] <;> omega
  | 1 => simp [colA, rowT, leadT] <;> omega
  | 2 => simp [colA, rowT, leadT] <;> omega
  | _ + 3 => simp [colA, rowT]
end Go.Proofs.YtjijgagdaolkcaaGreat
/- Lattices, plain: what the functions answer, by lists; and by triples. -/
namespace Go.Proofs.YtjijgagdaolkcaaGreat

def leadS (h : List (List Int)) (x : List Int) : Nat → List Int
  | 0 => x
  | c + 1 => lessL (leadS h x c) (scaleL (h.getD c []) (colA c (leadS h x c) / colA c (h.getD c [])))
def leadL (h : List (List Int)) (x : List Int) : List Int := leadS h x h.length
def leadR (m : List (List Int)) (x : List Int) : List Int × Bool := if (hermR m).2 = true ∧ isV x = true ∧ x.length = m.length then (leadL (hermR m).1 x, true) else ([], false)
def stepB (l : List (List Int)) (d : Nat) : List (List Int) := l.flatMap fun o => (List.range d).map fun (x : Nat) => o ++ [(x : Int)]
def boxS (h : List (List Int)) : Nat → List (List Int)
  | 0 => [[]]
  | c + 1 => stepB (boxS h c) (colA c (h.getD c [])).toNat
def boxL (h : List (List Int)) : List (List Int) := boxS h h.length
def indexR (m : List (List Int)) : Int := ((detR m).natAbs : Int)
def leadersR (m : List (List Int)) : List (List Int) := if (hermR m).2 = true ∧ indexR m ≤ 500 then boxL (hermR m).1 else []
def sameR (m : List (List Int)) (x y : List Int) : Bool := (leadR m x).2 && (leadR m y).2 && decide ((leadR m x).1 = (leadR m y).1)

theorem leadS_le (h : List (List Int)) (x : List Int) : ∀ k, (leadS h x k).length ≤ x.length
  | 0 => Nat.le_refl _
  | k + 1 => by
    have := leadS_le h x k
    simp only [leadS, lessL, List.length_zipWith]
    omega
theorem leadR_len (m : List (List Int)) (x : List Int) : (leadR m x).1.length ≤ 3 := by
  unfold leadR
  split
  · rename_i h
    have h3 := (isV_t h.2.1).2.1
    have := leadS_le (hermR m).1 x (hermR m).1.length
    unfold leadL
    simp only
    omega
  · simp
def padV (x : List Int) : T3 := (x.getD 0 0, x.getD 1 0, x.getD 2 0)
theorem herm_mat {m : List (List Int)} (h : (hermR m).2 = true) : detR m ≠ 0 ∧ isM (hermL m) = true ∧ (hermR m).1 = hermL m := by
  unfold hermR at *
  split at h
  · rename_i h2; rw [if_pos h2]; exact ⟨h2.1, h2.2, rfl⟩
  · cases h
theorem isM_of_det {m : List (List Int)} (h : detR m ≠ 0) : isM m = true ∧ detL m ≠ 0 := by
  unfold detR at h
  split at h
  · rename_i h2; exact ⟨h2, h⟩
  · exact absurd rfl h
theorem list3r {l : List (List Int)} (h : l.length = 3) : ∃ a b c, l = [a, b, c] := by
  match l, h with
  | [a, b, c], _ => exact ⟨a, b, c, rfl⟩
theorem pad_three {z : List (List Int)} (h : z.length = 3) : padM z = z := by
  obtain ⟨a, b, c, rfl⟩ := list3r h
  unfold padM
  split <;> simp_all
/-- A matrix with a determinant: its size, and the Hermite form of the padded matrix. -/
theorem herm_pad6 {m : List (List Int)} (hd : detR m ≠ 0) : ∃ h : H6, 1 ≤ m.length ∧ m.length ≤ 3 ∧ padM (hermL m) = h.rows ∧ hermL (padM m) = h.rows ∧ h.Ok ∧ h.d0 * h.d1 * h.d2 = indexR m ∧ (hermL m).length = m.length ∧
    ((m.length = 1 ∧ hermL m = [[h.d0]] ∧ h.a = 0 ∧ h.b = 0 ∧ h.d1 = 1 ∧ h.c = 0 ∧ h.d2 = 1) ∨ (m.length = 2 ∧ hermL m = [[h.d0, h.a], [0, h.d1]] ∧ h.b = 0 ∧ h.c = 0 ∧ h.d2 = 1) ∨ (m.length = 3 ∧ hermL m = h.rows)) := by
  obtain ⟨hm, hd2⟩ := isM_of_det hd
  obtain ⟨h1, h3, _⟩ := isM_t hm
  have hsq := isM_sq hm
  have hp := pad_sq (by omega) h1 h3 hsq
  have hdp : detL (padM m) ≠ 0 := by rw [pad_det h1 h3 hsq]; exact hd2
  have hl : (padM m).length = 3 := hp.1
  obtain ⟨h, e, ok, hprod⟩ := herm_form hl hp hdp
  obtain ⟨hpad, hcase⟩ := herm_pad2 h1 h3 hsq
  have e2 : padM (hermL m) = h.rows := by rw [← hpad, e]
  refine ⟨h, h1, h3, e2, e, ok, ?_, ?_⟩
  · rw [hprod, pad_det h1 h3 hsq]; unfold indexR detR; rw [if_pos hm]
  · rcases hcase with ⟨hn, y, hy⟩ | ⟨hn, p, q, r, s, hy⟩ | ⟨hn, hy⟩
    · rw [hy] at e2 ⊢
      simp [padM, H6.rows] at e2
      obtain ⟨⟨rfl, h1, h2⟩, ⟨h3, h4⟩, h5⟩ := e2
      exact ⟨by simp [hn], .inl ⟨hn, rfl, h1.symm, h2.symm, h3.symm, h4.symm, h5.symm⟩⟩
    · rw [hy] at e2 ⊢
      simp [padM, H6.rows] at e2
      obtain ⟨⟨h1, h2, h3⟩, ⟨h4, h5, h6⟩, h7⟩ := e2
      subst h1 h2 h4 h5
      exact ⟨by simp [hn], .inr (.inl ⟨hn, rfl, h3.symm, h6.symm, h7.symm⟩)⟩
    · refine ⟨by rw [hy, hn], .inr (.inr ⟨hn, ?_⟩)⟩
      rw [← e2]
      exact (pad_three hy).symm
theorem pad_of_isV {x : List Int} {n : Nat} (hn : x.length = n) : (n = 1 → ∃ a, x = [a]) ∧ (n = 2 → ∃ a b, x = [a, b]) ∧ (n = 3 → ∃ a b c, x = [a, b, c]) :=
  ⟨fun e => list1 (hn.trans e), fun e => list2 (hn.trans e), fun e => list3 (hn.trans e)⟩
/-- The leader by triples is the leader by lists. -/
theorem lead_cut {m : List (List Int)} (hd : detR m ≠ 0) {h : H6} (hp : padM (hermL m) = h.rows) {x : List Int} (hx : x.length = m.length) :
    (rowT (leadT h (padV x))).take m.length = leadL (hermL m) x ∧ rowT (leadT h (padV x)) = (leadL (hermL m) x) ++ List.replicate (3 - m.length) 0 := by
  obtain ⟨g, h1, h3, hp2, _, _, _, _, hc⟩ := herm_pad6 hd
  have hg : g = h := by
    rw [hp2] at hp
    obtain ⟨a, b, c, d, e, f⟩ := g
    obtain ⟨a', b', c', d', e', f'⟩ := h
    simp [H6.rows] at hp
    obtain ⟨⟨rfl, rfl, rfl⟩, ⟨rfl, rfl⟩, rfl⟩ := hp
    rfl
  subst hg
  rcases hc with ⟨hn, e, ea, eb, e1, ec, e2⟩ | ⟨hn, e, eb, ec, e2⟩ | ⟨hn, e⟩
  · obtain ⟨u, rfl⟩ := (pad_of_isV hx).1 hn
    rw [e, hn]
    simp [leadL, leadS, lessL, scaleL, colA, rowT, leadT, padV, ea, eb, e1, ec, e2, Int.mul_comm]
  · obtain ⟨u, v, rfl⟩ := (pad_of_isV hx).2.1 hn
    rw [e, hn]
    simp [leadL, leadS, lessL, scaleL, colA, rowT, leadT, padV, eb, ec, e2, Int.mul_comm]
  · obtain ⟨u, v, z, rfl⟩ := (pad_of_isV hx).2.2 hn
    rw [e, hn]
    simp [leadL, leadS, lessL, scaleL, colA, rowT, leadT, padV, H6.rows, Int.mul_comm]
theorem flat_one {α β : Type} (f : α → β) : ∀ l : List α, (l.flatMap fun a => [f a]) = l.map f
  | [] => rfl
  | x :: l => by simp [flat_one f l]
/-- The leaders by triples are the leaders by lists. -/
theorem box_cut {m : List (List Int)} (hd : detR m ≠ 0) {h : H6} (hp : padM (hermL m) = h.rows) : (boxT h).map (fun t => (rowT t).take m.length) = boxL (hermL m) := by
  obtain ⟨g, h1, h3, hp2, _, _, _, hl, hc⟩ := herm_pad6 hd
  have hg : g = h := by
    rw [hp2] at hp
    obtain ⟨a, b, c, d, e, f⟩ := g
    obtain ⟨a', b', c', d', e', f'⟩ := h
    simp [H6.rows] at hp
    obtain ⟨⟨rfl, rfl, rfl⟩, ⟨rfl, rfl⟩, rfl⟩ := hp
    rfl
  subst hg
  rcases hc with ⟨hn, e, ea, eb, e1, ec, e2⟩ | ⟨hn, e, eb, ec, e2⟩ | ⟨hn, e⟩
  · rw [e, hn]
    simp [boxL, boxS, boxT, stepB, colA, rowT, e1, e2, flat_one]
  · rw [e, hn]
    simp [boxL, boxS, boxT, stepB, colA, rowT, e2, List.map_flatMap, List.flatMap_map, flat_one, Function.comp_def]
  · rw [e, hn]
    simp [boxL, boxS, boxT, stepB, colA, rowT, H6.rows, List.map_flatMap, List.flatMap_map, List.flatMap_assoc, Function.comp_def]
end Go.Proofs.YtjijgagdaolkcaaGreat
/- Lattices, plain: the points of a cell. -/
namespace Go.Proofs.YtjijgagdaolkcaaGreat

/-- The factor of a row, rounded down: D / d, also if d is negative. -/
def qD (d D : Int) : Int := d * D / (d * d)
theorem qD_zero (d : Int) : qD d 0 = 0 := by simp [qD]
theorem qD_eq {d : Int} (hd : d ≠ 0) (D : Int) : (if d < 0 then -D else D) / (d.natAbs : Int) = qD d D := by
  unfold qD
  split
  · rename_i h
    rw [show (d.natAbs : Int) = -d by omega]
    have e := Int.mul_ediv_mul_of_pos (-D) (-d) (show 0 < -d by omega)
    rw [← e, Int.neg_mul_neg, Int.neg_mul_neg]
  · rename_i h
    rw [show (d.natAbs : Int) = d by omega]
    exact (Int.mul_ediv_mul_of_pos D d (show 0 < d by omega)).symm
/-- The point of the cell in the class of a triple. -/
def cellT (P : List (List Int)) (t : T3) : T3 :=
  let q := fun k => qD (detL P) (detL (P.set k (rowT t)))
  let c := fun j => q 0 * colA j (P.getD 0 []) + q 1 * colA j (P.getD 1 []) + q 2 * colA j (P.getD 2 [])
  (t.1 - c 0, t.2.1 - c 1, t.2.2 - c 2)
theorem cell_cls {r0 r1 r2 : List Int} (h0 : r0.length = 3) (h1 : r1.length = 3) (h2 : r2.length = 3) (t : T3) : Cls r0 r1 r2 t (cellT [r0, r1, r2] t) := by
  refine ⟨qD (detL [r0, r1, r2]) (detL ([r0, r1, r2].set 0 (rowT t))), qD (detL [r0, r1, r2]) (detL ([r0, r1, r2].set 1 (rowT t))), qD (detL [r0, r1, r2]) (detL ([r0, r1, r2].set 2 (rowT t))), fun d => ?_⟩
  match d with
  | 0 => simp [colA, rowT, cellT]
  | 1 => simp [colA, rowT, cellT]
  | 2 => simp [colA, rowT, cellT]
  | d + 3 => rw [colA_out (u := r0) (by omega), colA_out (u := r1) (by omega), colA_out (u := r2) (by omega)]; simp [colA, rowT]
def cellS (m : List (List Int)) (x : List Int) : Nat → List Int
  | 0 => x
  | k + 1 => lessL (cellS m x k) (scaleL (m.getD k []) (qD (detL m) (detL (m.set k x))))
def cellL (m : List (List Int)) (x : List Int) : List Int := cellS m x m.length
theorem sq_shape {n : Nat} {b : Int} {m : List (List Int)} (h1 : 1 ≤ n) (h3 : n ≤ 3) (h : Sq n b m) :
    (n = 1 ∧ ∃ a, m = [[a]]) ∨ (n = 2 ∧ ∃ a b c d, m = [[a, b], [c, d]]) ∨ (n = 3 ∧ ∃ a b c d e f g h i, m = [[a, b, c], [d, e, f], [g, h, i]]) := by
  rcases (by omega : n = 1 ∨ n = 2 ∨ n = 3) with rfl | rfl | rfl
  · obtain ⟨x, rfl, _⟩ := sq1 h
    exact .inl ⟨rfl, _, rfl⟩
  · obtain ⟨x, y, z, u, rfl, _⟩ := sq2 h
    exact .inr (.inl ⟨rfl, _, _, _, _, rfl⟩)
  · obtain ⟨_, _, _, _, _, _, _, _, _, rfl, _⟩ := sq3 h
    exact .inr (.inr ⟨rfl, _, _, _, _, _, _, _, _, _, rfl⟩)
/-- The point by triples is the point by lists. -/
theorem cell_cut {n : Nat} {b : Int} {m : List (List Int)} (h1 : 1 ≤ n) (h3 : n ≤ 3) (h : Sq n b m) {x : List Int} (hx : x.length = n) : (rowT (cellT (padM m) (padV x))).take n = cellL m x ∧ (rowT (cellT (padM m) (padV x))).drop n = List.replicate (3 - n) 0 := by
  rcases sq_shape h1 h3 h with ⟨rfl, a, rfl⟩ | ⟨rfl, a, b, c, d, rfl⟩ | ⟨rfl, a, b, c, d, e, f, g, h, i, rfl⟩
  · obtain ⟨u, rfl⟩ := list1 hx
    simp [cellL, cellS, cellT, padM, padV, rowT, detL, lessL, scaleL, colA, qD_zero, Int.mul_comm]
  · obtain ⟨u, v, rfl⟩ := list2 hx
    simp [cellL, cellS, cellT, padM, padV, rowT, detL, lessL, scaleL, colA, qD_zero]
    grind
  · obtain ⟨u, v, z, rfl⟩ := list3 hx
    simp [cellL, cellS, cellT, padM, padV, rowT, detL, lessL, scaleL, colA]
    grind
end Go.Proofs.YtjijgagdaolkcaaGreat
/- Lattices, plain: the points of a cell in order. -/
namespace Go.Proofs.YtjijgagdaolkcaaGreat

def cellsR (m : List (List Int)) : List (List Int) := if 1 ≤ indexR m ∧ indexR m ≤ 500 then ((boxL (hermL m)).map (cellL m)).foldl putL [] else []
theorem det_of_index {m : List (List Int)} (h : 1 ≤ indexR m) : detR m ≠ 0 := by
  intro e
  unfold indexR at h
  rw [e] at h
  simp at h
theorem before_lt {n : Nat} {p q : List Int} (h1 : 1 ≤ n) (h3 : n ≤ 3) (hp : p.length = n) (hq : q.length = n) (h : beforeL p q = true) : ltT (padV p) (padV q) := by
  rcases (by omega : n = 1 ∨ n = 2 ∨ n = 3) with rfl | rfl | rfl
  · obtain ⟨a, rfl⟩ := list1 hp
    obtain ⟨b, rfl⟩ := list1 hq
    simp [beforeL, padV, ltT] at h ⊢
    omega
  · obtain ⟨a, a', rfl⟩ := list2 hp
    obtain ⟨b, b', rfl⟩ := list2 hq
    simp only [beforeL] at h
    simp only [ltT, padV, List.getD_cons_zero, List.getD_cons_succ]
    grind
  · obtain ⟨a, a', a'', rfl⟩ := list3 hp
    obtain ⟨b, b', b'', rfl⟩ := list3 hq
    simp only [beforeL] at h
    simp only [ltT, padV, List.getD_cons_zero, List.getD_cons_succ]
    grind
theorem pad_cut {n : Nat} {p : List Int} (h3 : n ≤ 3) (hp : p.length = n) : (rowT (padV p)).take n = p := by
  match p, hp with
  | [], hp => subst hp; rfl
  | [a], hp => subst hp; rfl
  | [a, b], hp => subst hp; rfl
  | [a, b, c], hp => subst hp; rfl
  | _ :: _ :: _ :: _ :: _, hp => simp at hp; omega
theorem pad_back {n : Nat} {t : T3} (h3 : n ≤ 3) (hz : (rowT t).drop n = List.replicate (3 - n) 0) : padV ((rowT t).take n) = t := by
  obtain ⟨x, y, z⟩ := t
  rcases (by omega : n = 0 ∨ n = 1 ∨ n = 2 ∨ n = 3) with rfl | rfl | rfl | rfl
  · simp [rowT, List.replicate] at hz; obtain ⟨rfl, rfl, rfl⟩ := hz; rfl
  · simp [rowT, List.replicate] at hz; obtain ⟨rfl, rfl⟩ := hz; rfl
  · simp [rowT] at hz; subst hz; rfl
  · rfl
theorem box_pad {m : List (List Int)} (hd : detR m ≠ 0) {h : H6} (hp : padM (hermL m) = h.rows) : (boxL (hermL m)).map padV = boxT h := by
  obtain ⟨g, h1, h3, hp2, _, ok, _, hl, hc⟩ := herm_pad6 hd
  have hg : g = h := by
    rw [hp2] at hp
    obtain ⟨a, b, c, d, e, f⟩ := g
    obtain ⟨a', b', c', d', e', f'⟩ := h
    simp [H6.rows] at hp
    obtain ⟨⟨rfl, rfl, rfl⟩, ⟨rfl, rfl⟩, rfl⟩ := hp
    rfl
  subst hg
  rw [← box_cut hd hp, List.map_map]
  refine (List.map_congr_left fun t ht => ?_).trans (List.map_id _)
  have i := mem_boxT.1 ht
  obtain ⟨x, y, z⟩ := t
  obtain ⟨_, _, y0, y1, z0, z1⟩ := i
  simp only at y0 y1 z0 z1
  show padV ((rowT (x, y, z)).take m.length) = (x, y, z)
  rcases hc with ⟨hn, _, _, _, e1, _, e2⟩ | ⟨hn, _, _, _, e2⟩ | ⟨hn, _⟩
  · rw [hn, show y = 0 by omega, show z = 0 by omega]; rfl
  · rw [hn, show z = 0 by omega]; rfl
  · rw [hn]; rfl
/-- Different leaders have different points of the cell. -/
theorem cell_inj {m : List (List Int)} (hd : detR m ≠ 0) {h : H6} (he : hermL (padM m) = h.rows) {s t : T3} (i : InT h s) (j : InT h t) (e : cellT (padM m) s = cellT (padM m) t) : s = t := by
  obtain ⟨hm, hd2⟩ := isM_of_det hd
  obtain ⟨h1, h3, _⟩ := isM_t hm
  have hsq := isM_sq hm
  have hp := pad_sq (by omega) h1 h3 hsq
  have hdp : detL (padM m) ≠ 0 := by rw [pad_det h1 h3 hsq]; exact hd2
  have hl : (padM m).length = 3 := hp.1
  obtain ⟨u0, u1, u2, eh, hs⟩ := herm_span hl hp hdp
  obtain ⟨r0, r1, r2, er⟩ := list3r hl
  have l0 := (hp.2 0 (by omega)).1
  have l1 := (hp.2 1 (by omega)).1
  have l2 := (hp.2 2 (by omega)).1
  simp only [er, List.getElem_cons_zero, List.getElem_cons_succ] at l0 l1 l2
  rw [er] at e hs
  have c1 := cell_cls l0 l1 l2 s
  have c2 := cell_cls l0 l1 l2 t
  rw [e] at c1
  have c3 := (c1.trans c2.symm).of_span (hs r0 (by simp)) (hs r1 (by simp)) (hs r2 (by simp))
  rw [eh] at he
  simp only [H6.rows, List.cons.injEq, and_true] at he
  obtain ⟨rfl, rfl, rfl⟩ := he
  exact lead_one i j c3
theorem cells_nodup {m : List (List Int)} (hd : detR m ≠ 0) {h : H6} (he : hermL (padM m) = h.rows) : ((boxT h).map (cellT (padM m))).Nodup := by
  unfold List.Nodup
  rw [List.pairwise_map]
  exact (boxT_nodup h).imp_of_mem fun {a b} ha hb hne e => hne (cell_inj hd he (mem_boxT.1 ha) (mem_boxT.1 hb) e)
/-- The points of the cell by triples, in order, are those by lists. -/
theorem cells_eq {m : List (List Int)} (h1 : 1 ≤ indexR m) (h5 : indexR m ≤ 500) {h : H6} (hp : padM (hermL m) = h.rows) {D : List T3} (hs : D.Pairwise ltT) (hm : ∀ t, t ∈ D ↔ t ∈ (boxT h).map (cellT (padM m))) : D.map (fun t => (rowT t).take m.length) = cellsR m := by
  have hd := det_of_index h1
  obtain ⟨hM, hd2⟩ := isM_of_det hd
  obtain ⟨n1, n3, _⟩ := isM_t hM
  have hsq := isM_sq hM
  obtain ⟨_, _, _, _, _, _, _, hlen, _⟩ := herm_pad6 hd
  unfold cellsR
  rw [if_pos ⟨h1, h5⟩]
  have hbl : ∀ x ∈ boxL (hermL m), x.length = m.length := fun x hx => by
    rw [← box_cut hd hp] at hx
    obtain ⟨t, _, rfl⟩ := List.mem_map.1 hx
    rw [List.length_take]; simp [rowT]; omega
  have hcl : ∀ q ∈ (boxL (hermL m)).map (cellL m), q.length = m.length := fun q hq => by
    obtain ⟨x, hx, rfl⟩ := List.mem_map.1 hq
    rw [← (cell_cut n1 n3 hsq (hbl x hx)).1, List.length_take]; simp [rowT]; omega
  obtain ⟨f1, f2⟩ := foldL_put ((boxL (hermL m)).map (cellL m)) [] hcl (by simp) (by simp [LessL])
  have fl : ∀ q ∈ ((boxL (hermL m)).map (cellL m)).foldl putL [], q.length = m.length := fun q hq => hcl q (by simpa using (f2 q).1 hq)
  generalize ((boxL (hermL m)).map (cellL m)).foldl putL [] = E at f1 f2 fl
  have hE : E.map padV = D := by
    refine sorted_ext ?_ hs fun t => ?_
    · rw [List.pairwise_map]
      exact List.Pairwise.imp_of_mem (R := fun p q => beforeL p q = true) (fun {a b} ha hb hab => before_lt n1 n3 (fl a ha) (fl b hb) hab) f1
    · rw [hm t, List.mem_map, ← box_pad hd hp, List.mem_map]
      constructor
      · rintro ⟨q, hq, rfl⟩
        obtain ⟨x, hx, rfl⟩ := List.mem_map.1 (by simpa using (f2 q).1 hq)
        refine ⟨padV x, List.mem_map.2 ⟨x, hx, rfl⟩, ?_⟩
        have cc := cell_cut n1 n3 hsq (hbl x hx)
        rw [← cc.1, pad_back n3 cc.2]
      · rintro ⟨u, hu, rfl⟩
        obtain ⟨x, hx, rfl⟩ := List.mem_map.1 hu
        have cc := cell_cut n1 n3 hsq (hbl x hx)
        exact ⟨cellL m x, (f2 _).2 (.inr (List.mem_map.2 ⟨x, hx, rfl⟩)), by rw [← cc.1, pad_back n3 cc.2]⟩
  rw [← hE, List.map_map]
  refine (List.map_congr_left fun q hq => ?_).trans (List.map_id _)
  exact pad_cut n3 (fl q hq)
end Go.Proofs.YtjijgagdaolkcaaGreat
/- Lattices, plain: what the law of lattices asks. -/
namespace Go.Proofs.YtjijgagdaolkcaaGreat

theorem isV_cutU {t : T3} {n : Nat} (h1 : 1 ≤ n) (h3 : n ≤ 3) (hx : -1000 ≤ t.1 ∧ t.1 ≤ 1000) (hy : -1000 ≤ t.2.1 ∧ t.2.1 ≤ 1000) (hz : -1000 ≤ t.2.2 ∧ t.2.2 ≤ 1000) : isV ((rowT t).take n) = true := by
  rcases (by omega : n = 1 ∨ n = 2 ∨ n = 3) with rfl | rfl | rfl <;> simp [isV, rowT, small, inR] <;> omega
theorem herm_dU {m : List (List Int)} {h : H6} (hM : isM (hermL m) = true) (_ok : h.Ok) (hc : (m.length = 1 ∧ hermL m = [[h.d0]] ∧ h.a = 0 ∧ h.b = 0 ∧ h.d1 = 1 ∧ h.c = 0 ∧ h.d2 = 1) ∨ (m.length = 2 ∧ hermL m = [[h.d0, h.a], [0, h.d1]] ∧ h.b = 0 ∧ h.c = 0 ∧ h.d2 = 1) ∨ (m.length = 3 ∧ hermL m = h.rows)) : h.d0 ≤ 100 ∧ h.d1 ≤ 100 ∧ h.d2 ≤ 100 := by
  obtain ⟨_, _, hb⟩ := isM_t hM
  rcases hc with ⟨_, e, _, _, e1, _, e2⟩ | ⟨_, e, _, _, e2⟩ | ⟨_, e⟩
  · rw [e] at hb
    have := (hb 0 (by simp)).2 0 (by simp)
    simp at this
    omega
  · rw [e] at hb
    have b0 := (hb 0 (by simp)).2 0 (by simp)
    have b1 := (hb 1 (by simp)).2 1 (by simp)
    simp at b0 b1
    omega
  · rw [e] at hb
    unfold H6.rows at hb
    have b0 := (hb 0 (by simp)).2 0 (by simp)
    have b1 := (hb 1 (by simp)).2 1 (by simp)
    have b2 := (hb 2 (by simp)).2 2 (by simp)
    simp at b0 b1 b2
    omega
/-- The leader of a leader is the leader itself, and it is in the class. -/
theorem lead_again {m : List (List Int)} {x l : List Int} (h : leadR m x = (l, true)) : leadR m l = (l, true) ∧ sameR m x l = true := by
  have h0 := h
  unfold leadR at h
  split at h
  · rename_i k
    obtain ⟨kh, kv, kl⟩ := k
    obtain ⟨hd, hM, he⟩ := herm_mat kh
    obtain ⟨g, n1, n3, hp, hp2, ok, _, hl, hc⟩ := herm_pad6 hd
    obtain ⟨d0, d1, d2⟩ := herm_dU hM ok hc
    rw [he] at h
    simp only [Prod.mk.injEq, and_true] at h
    obtain ⟨c1, c2⟩ := lead_cut hd hp kl
    rw [h] at c1 c2
    obtain ⟨t, ht⟩ : ∃ t, leadT g (padV x) = t := ⟨_, rfl⟩
    rw [ht] at c1 c2
    have i : InT g t := by rw [← ht]; exact lead_in ok _
    have hln : l.length = m.length := by rw [← c1, List.length_take]; simp [rowT]; omega
    have e2 : (rowT t).drop m.length = List.replicate (3 - m.length) 0 := by rw [c2, ← hln, List.drop_left]
    have hpad : padV l = t := by rw [← c1]; exact pad_back n3 e2
    have hv : isV l = true := by
      rw [← c1]
      have := i.x0; have := i.x1; have := i.y0; have := i.y1; have := i.z0; have := i.z1
      exact isV_cutU n1 n3 (by omega) (by omega) (by omega)
    have hll : leadL (hermL m) l = l := by
      rw [← (lead_cut hd hp hln).1, hpad, lead_self i, c1]
    have hr : leadR m l = (l, true) := by
      unfold leadR
      rw [if_pos ⟨kh, hv, hln⟩, he, hll]
    refine ⟨hr, ?_⟩
    unfold sameR
    rw [h0, hr]
    simp
  · simp at h
theorem qD_rem {d : Int} (hd : d ≠ 0) (D : Int) : (D - d * qD d D).natAbs ≤ d.natAbs := by
  rw [← qD_eq hd D]
  split
  · rename_i h
    have e := Int.ediv_mul_add_emod (-D) (d.natAbs : Int)
    have e1 := Int.emod_nonneg (-D) (show (d.natAbs : Int) ≠ 0 by omega)
    have e2 := Int.emod_lt_of_pos (-D) (show (0 : Int) < (d.natAbs : Int) by omega)
    have e3 : d = -(d.natAbs : Int) := by omega
    have e4 : d * (-D / (d.natAbs : Int)) = -(-D / (d.natAbs : Int) * (d.natAbs : Int)) := by
      rw [Int.mul_comm (-D / _), ← Int.neg_mul, ← e3]
    omega
  · rename_i h
    have e := Int.ediv_mul_add_emod D (d.natAbs : Int)
    have e1 := Int.emod_nonneg D (show (d.natAbs : Int) ≠ 0 by omega)
    have e2 := Int.emod_lt_of_pos D (show (0 : Int) < (d.natAbs : Int) by omega)
    have e3 : d = (d.natAbs : Int) := by omega
    have e4 : d * (D / (d.natAbs : Int)) = D / (d.natAbs : Int) * (d.natAbs : Int) := by
      rw [Int.mul_comm (D / _), ← e3]
    omega
theorem frac_bd {d C r0 r1 r2 a0 a1 a2 : Int} (hd : d ≠ 0) (e : d * C = r0 * a0 + r1 * a1 + r2 * a2) (h0 : r0.natAbs ≤ d.natAbs) (h1 : r1.natAbs ≤ d.natAbs) (h2 : r2.natAbs ≤ d.natAbs)
    (b0 : -100 ≤ a0 ∧ a0 ≤ 100) (b1 : -100 ≤ a1 ∧ a1 ≤ 100) (b2 : -100 ≤ a2 ∧ a2 ≤ 100) : -300 ≤ C ∧ C ≤ 300 := by
  have p : ∀ {r a : Int}, r.natAbs ≤ d.natAbs → (-100 ≤ a ∧ a ≤ 100) → (r * a).natAbs ≤ d.natAbs * 100 := fun {r a} hr ha => by
    rw [Int.natAbs_mul]
    exact Nat.mul_le_mul hr (by omega)
  have q0 := p h0 b0
  have q1 := p h1 b1
  have q2 := p h2 b2
  have hs : (d * C).natAbs ≤ d.natAbs * 300 := by
    rw [e]
    have t1 := Int.natAbs_add_le (r0 * a0 + r1 * a1) (r2 * a2)
    have t2 := Int.natAbs_add_le (r0 * a0) (r1 * a1)
    omega
  rw [Int.natAbs_mul] at hs
  have := Nat.le_of_mul_le_mul_left hs (by omega)
  omega
/-- A point of the cell has small numbers. -/
theorem cellT_bd {P : List (List Int)} (hP : Sq 3 100 P) (hd : detL P ≠ 0) (t : T3) : (-300 ≤ (cellT P t).1 ∧ (cellT P t).1 ≤ 300) ∧ (-300 ≤ (cellT P t).2.1 ∧ (cellT P t).2.1 ≤ 300) ∧ (-300 ≤ (cellT P t).2.2 ∧ (cellT P t).2.2 ≤ 300) := by
  have hb := hP.2
  rcases sq_shape (by omega) (by omega) hP with ⟨e, _⟩ | ⟨e, _⟩ | ⟨_, a, b, c, d, e, f, g, h, i, rfl⟩
  · omega
  · omega
  obtain ⟨x, y, z⟩ := t
  have B0 := (hb 0 (by simp)).2
  have B1 := (hb 1 (by simp)).2
  have B2 := (hb 2 (by simp)).2
  have a0 := B0 0 (by simp)
  have a1 := B0 1 (by simp)
  have a2 := B0 2 (by simp)
  have d0 := B1 0 (by simp)
  have d1 := B1 1 (by simp)
  have d2 := B1 2 (by simp)
  have g0 := B2 0 (by simp)
  have g1 := B2 1 (by simp)
  have g2 := B2 2 (by simp)
  simp only [List.getElem_cons_zero, List.getElem_cons_succ] at a0 a1 a2 d0 d1 d2 g0 g1 g2
  have k0 := qD_rem hd (detL [[x, y, z], [d, e, f], [g, h, i]])
  have k1 := qD_rem hd (detL [[a, b, c], [x, y, z], [g, h, i]])
  have k2 := qD_rem hd (detL [[a, b, c], [d, e, f], [x, y, z]])
  obtain ⟨q0, hq0⟩ : ∃ q, qD (detL [[a, b, c], [d, e, f], [g, h, i]]) (detL [[x, y, z], [d, e, f], [g, h, i]]) = q := ⟨_, rfl⟩
  obtain ⟨q1, hq1⟩ : ∃ q, qD (detL [[a, b, c], [d, e, f], [g, h, i]]) (detL [[a, b, c], [x, y, z], [g, h, i]]) = q := ⟨_, rfl⟩
  obtain ⟨q2, hq2⟩ : ∃ q, qD (detL [[a, b, c], [d, e, f], [g, h, i]]) (detL [[a, b, c], [d, e, f], [x, y, z]]) = q := ⟨_, rfl⟩
  have ec : cellT [[a, b, c], [d, e, f], [g, h, i]] (x, y, z) = (x - (q0 * a + q1 * d + q2 * g), y - (q0 * b + q1 * e + q2 * h), z - (q0 * c + q1 * f + q2 * i)) := by
    rw [← hq0, ← hq1, ← hq2]; rfl
  rw [hq0] at k0
  rw [hq1] at k1
  rw [hq2] at k2
  rw [ec]
  clear ec hq0 hq1 hq2 hb hP B0 B1 B2
  refine ⟨frac_bd hd ?_ k0 k1 k2 a0 d0 g0, frac_bd hd ?_ k0 k1 k2 a1 d1 g1, frac_bd hd ?_ k0 k1 k2 a2 d2 g2⟩
  · simp only [detL]; clear k0 k1 k2 hd a0 a1 a2 d0 d1 d2 g0 g1 g2; grind
  · simp only [detL]; clear k0 k1 k2 hd a0 a1 a2 d0 d1 d2 g0 g1 g2; grind
  · simp only [detL]; clear k0 k1 k2 hd a0 a1 a2 d0 d1 d2 g0 g1 g2; grind
theorem box_inU {m : List (List Int)} (hd : detR m ≠ 0) {h : H6} (hp : padM (hermL m) = h.rows) {x : List Int} (hx : x ∈ boxL (hermL m)) : x.length = m.length ∧ InT h (padV x) := by
  obtain ⟨_, _, n3, _⟩ := herm_pad6 hd
  constructor
  · rw [← box_cut hd hp] at hx
    obtain ⟨t, _, rfl⟩ := List.mem_map.1 hx
    rw [List.length_take]; simp [rowT]; omega
  · exact mem_boxT.1 (by rw [← box_pad hd hp]; exact List.mem_map_of_mem hx)
theorem cell_lenU {m : List (List Int)} (hd : detR m ≠ 0) {x : List Int} (hx : x.length = m.length) : (cellL m x).length = m.length ∧ padV (cellL m x) = cellT (padM m) (padV x) ∧ isV (cellL m x) = true := by
  obtain ⟨hM, hd2⟩ := isM_of_det hd
  obtain ⟨n1, n3, _⟩ := isM_t hM
  have hsq := isM_sq hM
  have hp := pad_sq (by omega) n1 n3 hsq
  have hdp : detL (padM m) ≠ 0 := by rw [pad_det n1 n3 hsq]; exact hd2
  obtain ⟨c1, c2⟩ := cell_cut n1 n3 hsq hx
  obtain ⟨b0, b1, b2⟩ := cellT_bd hp hdp (padV x)
  refine ⟨by rw [← c1, List.length_take]; simp [rowT]; omega, by rw [← c1]; exact pad_back n3 c2, ?_⟩
  rw [← c1]
  exact isV_cutU n1 n3 (by omega) (by omega) (by omega)
/-- The leader of a cell's point is the leader that it was made of. -/
theorem lead_cell {m : List (List Int)} (hd : detR m ≠ 0) {x : List Int} (hx : x ∈ boxL (hermL m)) : leadL (hermL m) (cellL m x) = x := by
  obtain ⟨g, n1, n3, hp, he, ok, _, hl, hc⟩ := herm_pad6 hd
  obtain ⟨hxl, hxi⟩ := box_inU hd hp hx
  obtain ⟨k1, k2, _⟩ := cell_lenU hd hxl
  obtain ⟨hM, hd2⟩ := isM_of_det hd
  have hsq := isM_sq hM
  have hps := pad_sq (by omega) n1 n3 hsq
  have hdp : detL (padM m) ≠ 0 := by rw [pad_det n1 n3 hsq]; exact hd2
  have hlp : (padM m).length = 3 := hps.1
  obtain ⟨u0, u1, u2, eh, hs⟩ := herm_span hlp hps hdp
  obtain ⟨r0, r1, r2, er⟩ := list3r hlp
  have l0 := (hps.2 0 (by omega)).1
  have l1 := (hps.2 1 (by omega)).1
  have l2 := (hps.2 2 (by omega)).1
  simp only [er, List.getElem_cons_zero, List.getElem_cons_succ] at l0 l1 l2
  rw [er] at hs k2
  have c1 := cell_cls l0 l1 l2 (padV x)
  rw [← k2] at c1
  have c3 := c1.of_span (hs r0 (by simp)) (hs r1 (by simp)) (hs r2 (by simp))
  rw [eh] at he
  simp only [H6.rows, List.cons.injEq, and_true] at he
  obtain ⟨rfl, rfl, rfl⟩ := he
  have c4 := c3.trans (lead_cls g (padV (cellL m x)))
  have e := lead_one hxi (lead_in ok _) c4
  rw [← (lead_cut hd hp k1).1, ← e]
  exact pad_cut n3 hxl
theorem box_nodup {m : List (List Int)} (hd : detR m ≠ 0) : (boxL (hermL m)).Nodup := by
  obtain ⟨g, _, _, hp, _⟩ := herm_pad6 hd
  have h := boxT_nodup g
  rw [← box_pad hd hp] at h
  unfold List.Nodup at h ⊢
  rw [List.pairwise_map] at h
  exact h.imp fun {a b} hab e => hab (by rw [e])
theorem box_lenU {m : List (List Int)} (hd : detR m ≠ 0) : ((boxL (hermL m)).length : Int) = indexR m := by
  obtain ⟨g, _, _, hp, _, ok, hi, _⟩ := herm_pad6 hd
  rw [← List.length_map (f := padV), box_pad hd hp, boxT_len, ← hi, Int.mul_assoc]
  have := ok.p0; have := ok.p1; have := ok.p2
  rw [Int.natCast_mul, Int.natCast_mul, Int.toNat_of_nonneg (by omega), Int.toNat_of_nonneg (by omega), Int.toNat_of_nonneg (by omega)]
/-- What the law asks of all leaders and all points of the cell. -/
theorem law_all {m : List (List Int)} (h : leadersR m ≠ []) : ((leadersR m).length : Int) = indexR m ∧ (cellsR m).length = (leadersR m).length ∧
    ∃ F : List Int → List Int, (∀ q ∈ cellsR m, leadR m q = (F q, true) ∧ F q ∈ leadersR m) ∧ (∀ (i j : Nat) (hi : i < (cellsR m).length) (hj : j < (cellsR m).length), F (cellsR m)[i] = F (cellsR m)[j] → i = j) := by
  have hL : leadersR m = boxL (hermL m) ∧ (hermR m).2 = true ∧ indexR m ≤ 500 := by
    unfold leadersR at h ⊢
    split
    · rename_i k; exact ⟨by rw [(herm_mat k.1).2.2], k⟩
    · rename_i k; rw [if_neg k] at h; exact absurd rfl h
  obtain ⟨eL, kh, k5⟩ := hL
  obtain ⟨hd, hM', he⟩ := herm_mat kh
  have k1 : 1 ≤ indexR m := by unfold indexR; omega
  have hb : ∀ x ∈ boxL (hermL m), x.length = m.length := fun x hx => by
    obtain ⟨g, _, _, hp, _⟩ := herm_pad6 hd
    exact (box_inU hd hp hx).1
  have eC : cellsR m = ((boxL (hermL m)).map (cellL m)).foldl putL [] := by unfold cellsR; rw [if_pos ⟨k1, k5⟩]
  have hcl : ∀ q ∈ (boxL (hermL m)).map (cellL m), q.length = m.length := fun q hq => by
    obtain ⟨x, hx, rfl⟩ := List.mem_map.1 hq
    exact (cell_lenU hd (hb x hx)).1
  obtain ⟨f1, f2⟩ := foldL_put ((boxL (hermL m)).map (cellL m)) [] hcl (by simp) (by simp [LessL])
  rw [← eC] at f1 f2
  have hmem : ∀ q, q ∈ cellsR m ↔ q ∈ (boxL (hermL m)).map (cellL m) := fun q => by rw [f2 q]; simp
  have nd1 : ((boxL (hermL m)).map (cellL m)).Nodup := by
    unfold List.Nodup
    rw [List.pairwise_map]
    exact (box_nodup hd).imp_of_mem fun {a b} ha hb' hne e => hne (by rw [← lead_cell hd ha, ← lead_cell hd hb', e])
  have nd2 : (cellsR m).Nodup := by
    unfold List.Nodup
    refine List.Pairwise.imp_of_mem (R := fun p q => beforeL p q = true) (fun {a b} ha hb' hab e => ?_) f1
    subst e
    obtain ⟨hM, _⟩ := isM_of_det hd
    obtain ⟨n1, n3, _⟩ := isM_t hM
    have hl := hcl a ((hmem a).1 ha)
    exact ltT_irrefl _ (before_lt n1 n3 hl hl hab)
  have hlen : (cellsR m).length = (boxL (hermL m)).length := by
    have h := ((List.perm_ext_iff_of_nodup nd2 nd1).2 hmem).length_eq
    rwa [List.length_map] at h
  refine ⟨by rw [eL]; exact box_lenU hd, by rw [eL]; exact hlen, leadL (hermL m), fun q hq => ?_, fun i j hi hj e => ?_⟩
  · obtain ⟨x, hx, rfl⟩ := List.mem_map.1 ((hmem q).1 hq)
    obtain ⟨c1, _, c3⟩ := cell_lenU hd (hb x hx)
    refine ⟨?_, by rw [lead_cell hd hx, eL]; exact hx⟩
    unfold leadR
    rw [if_pos ⟨kh, c3, c1⟩, he]
  · obtain ⟨x, hx, ex⟩ := List.mem_map.1 ((hmem _).1 (List.getElem_mem hi))
    obtain ⟨y, hy, ey⟩ := List.mem_map.1 ((hmem _).1 (List.getElem_mem hj))
    rw [← ex, ← ey, lead_cell hd hx, lead_cell hd hy] at e
    have e2 : (cellsR m)[i] = (cellsR m)[j] := by rw [← ex, ← ey, e]
    exact (List.getElem_inj nd2).1 e2
end Go.Proofs.YtjijgagdaolkcaaGreat
/- append at whatever element type: the slice that is appended may be empty; the answer has a slice's form. -/
namespace Go.Proofs.YtjijgagdaolkcaaGreat
open Go.RowKit Go.Lib

theorem owns_slice {w : World} {base : Nat} {e : TypeId} {k : Nat} {v : Value} {n : Nat} {xs : List Value} (h : w.ownsRow base e k v n xs) : ∃ (a : Option Addr) (c : Nat), v = .slice a n c ∧ n ≤ c ∧ c ≤ maxLen := by
  rcases h.2 with ⟨rfl, h0⟩ | ⟨g, cap, cur, rfl, _, _, h1, h2, _⟩
  · exact ⟨none, 0, by rw [h0], by omega, by unfold maxLen; omega⟩
  · exact ⟨_, cap, rfl, h1, h2⟩
/-- append(v, news...) at an operation: news may be none. -/
theorem wp_appG {o : Oper} {a : Act} {w : World} {K : Act → World → Prop} {Q : Exit → Act → World → Prop} (s x : Operand) (t : TypeId)
    (ho : o.op = .call { callee := .builtin .append, args := #[s, x], argTypes := #[t, t] })
    (base : Nat) (e : TypeId) (i : TypeInfo) (z : Value) (size bytes : Nat) (ht : Tryz.prog.underlying t = some (.slice e)) (hi : Tryz.prog.info? e = some i) (hz : i.zero = some z)
    (hsize : i.size = size) (hby : i.bytes = bytes) (hzs : z.cells.size = size) (hsz : 0 < size)
    (v : Value) (n : Nat) (xs : List Value) (hs : a.eval s = v) (hown : w.ownsRow base e size v n xs)
    (ad : Option Addr) (m c : Nat) (news : List Value) (hx : a.eval x = .slice ad m c) (hl : news.length = m * size) (hnews : 0 < m → ∃ p, ad = some p ∧ ∀ j u, news[j]? = some u → w.cell? (p.add j) = some u) (h1 : ∀ u ∈ news, u.oneCell' = true)
    (h63 : n + m ≤ 1099511627776) (hbytes : bytes ≤ 64) (hbase : base ≤ w.heap.size)
    (h : ∀ a' c' w', w'.ownsRow base e size (.slice a' (n + m) c') (n + m) (xs ++ news) → w.grownBy w' v.ownBlock → (∀ b, (Value.slice a' (n + m) c').ownBlock = some b → v.ownBlock = some b ∨ w.heap.size ≤ b) → K (a.put o.dst (.slice a' (n + m) c')) w') : o.wp Tryz.prog a w K Q := by
  by_cases h0 : 0 < m
  · obtain ⟨p, rfl, hp⟩ := hnews h0
    refine wp_append_lies w s x t ho base e i z size bytes ht hi hz hsize hby hzs hsz v n xs hs hown p m c news hx hl hp h1 h0 (by unfold maxLen; omega) ?_ hbase w.heap.size rfl ?_
    · exact Nat.le_trans (Nat.mul_le_mul h63 hbytes) (by omega)
    · intro g cap w' k1 k2 k3 _
      refine h _ _ w' k1 k2 fun b hb => ?_
      have hgb : g = b := by simpa [Value.ownBlock] using hb
      rcases k3 with k3 | k3
      · exact .inl (by rw [k3, hgb])
      · exact .inr (by omega)
  · obtain rfl : m = 0 := by omega
    obtain rfl : news = [] := List.eq_nil_of_length_eq_zero (by rw [hl, Nat.zero_mul])
    obtain ⟨a', c', rfl, _⟩ := owns_slice hown
    have hr := runNone (w := w) base t o.type e i size ht hi _ n xs hown ad c
    unfold Oper.wp execOp
    simp only [ho, resolve, invoke, builtin, Sem.run_bind, Sem.run_pure, Result.andThen_ok, List.map_toArray, List.map_cons, List.map_nil, hs, hx, hr]
    exact h a' c' w (by rw [List.append_nil]; exact hown) ⟨rfl, rfl, rfl, Nat.le_refl _, fun _ _ _ => rfl⟩ fun b hb => .inl hb
theorem list_appG {ops : Array Oper} {rest : List Oper} {o : Oper} {a : Act} {w : World} {Q : Exit → Act → World → Prop} (hgd : o.guard = none) (s x : Operand) (t : TypeId)
    (ho : o.op = .call { callee := .builtin .append, args := #[s, x], argTypes := #[t, t] })
    (base : Nat) (e : TypeId) (i : TypeInfo) (z : Value) (size bytes : Nat) (ht : Tryz.prog.underlying t = some (.slice e)) (hi : Tryz.prog.info? e = some i) (hz : i.zero = some z)
    (hsize : i.size = size) (hby : i.bytes = bytes) (hzs : z.cells.size = size) (hsz : 0 < size)
    (v : Value) (n : Nat) (xs : List Value) (hs : a.eval s = v) (hown : w.ownsRow base e size v n xs)
    (ad : Option Addr) (m c : Nat) (news : List Value) (hx : a.eval x = .slice ad m c) (hl : news.length = m * size) (hnews : 0 < m → ∃ p, ad = some p ∧ ∀ j u, news[j]? = some u → w.cell? (p.add j) = some u) (h1 : ∀ u ∈ news, u.oneCell' = true)
    (h63 : n + m ≤ 1099511627776) (hbytes : bytes ≤ 64) (hbase : base ≤ w.heap.size)
    (h : ∀ a' c' w', w'.ownsRow base e size (.slice a' (n + m) c') (n + m) (xs ++ news) → w.grownBy w' v.ownBlock → (∀ b, (Value.slice a' (n + m) c').ownBlock = some b → v.ownBlock = some b ∨ w.heap.size ≤ b) → wpList Tryz.prog ops Q rest (a.put o.dst (.slice a' (n + m) c')) w') : wpList Tryz.prog ops Q (o :: rest) a w :=
  wpList_plain hgd fun _ hK => wp_appG s x t ho base e i z size bytes ht hi hz hsize hby hzs hsz v n xs hs hown ad m c news hx hl hnews h1 h63 hbytes hbase fun a' c' w' k1 k2 k3 => hK _ _ (h a' c' w' k1 k2 k3)
/-- What reads as a list lies where append looks for it. -/
theorem Sl.news {w : World} {ad : Option Addr} {m c : Nat} {ys : List Value} (h : Sl w (.slice ad m c) ys) : ys.length = m * 1 ∧ (0 < m → ∃ p, ad = some p ∧ ∀ j u, ys[j]? = some u → w.cell? (p.add j) = some u) := by
  obtain ⟨a, c', e, _, ho⟩ := h.shape
  simp only [Value.slice.injEq] at e
  obtain ⟨rfl, rfl, rfl⟩ := e
  refine ⟨by omega, fun h0 => ?_⟩
  obtain ⟨b, off, e, _, _, hx⟩ := ho h0
  refine ⟨⟨b, off, none⟩, e, fun j u hu => ?_⟩
  have hadd : (⟨b, off, none⟩ : Addr).add j = ⟨b, off + j, none⟩ := by
    unfold Addr.add
    split
    · simp_all
    · rfl
  rw [hadd]
  exact hx j u hu
/-- What was appended to lies in its block alone; the others are as they were. -/
theorem OwnV.grown' {e : TypeId} {lo hi : Nat} {w w' : World} {v : Value} {xs : List Value} {r : Option Nat} (h : OwnV e lo hi w v xs) (hg : w.grownBy w' r) (hne : ∀ b, v.ownBlock = some b → r ≠ some b) : OwnV e lo hi w' v xs := by
  rcases h with h | ⟨g, cap, cur, rfl, h1, h2, hb, hr⟩
  · exact .inl h
  · exact .inr ⟨g, cap, cur, rfl, h1, h2, by rw [hg.block g (lt_of_heap hb) (fun e => hne g rfl e.symm)]; exact hb, hr⟩
end Go.Proofs.YtjijgagdaolkcaaGreat
/- Slices of elements of k cells each that the call made itself; whatever the element, its cells hold no address. -/
namespace Go.Proofs.YtjijgagdaolkcaaGreat
open Go.RowKit Go.Lib

section
variable {α : Type} (enc : α → List Value) (k : Nat)
theorem flatE_len (hk : ∀ x, (enc x).length = k) : ∀ l : List α, (l.flatMap enc).length = l.length * k
  | [] => by simp
  | x :: l => by rw [List.flatMap_cons, List.length_append, hk, flatE_len hk l, List.length_cons, Nat.succ_mul]; omega
theorem flatE_get (hk : ∀ x, (enc x).length = k) : ∀ (l : List α) (j c : Nat) (h : j < l.length) (_ : c < k), (l.flatMap enc)[j * k + c]? = (enc l[j])[c]?
  | [], j, c, h, _ => by simp at h
  | x :: l, 0, c, h, hc => by rw [List.flatMap_cons, Nat.zero_mul, Nat.zero_add, List.getElem?_append_left (by rw [hk]; exact hc)]; rfl
  | x :: l, j + 1, c, h, hc => by
    rw [List.flatMap_cons, List.getElem?_append_right (by rw [hk, Nat.succ_mul]; omega), hk, show (j + 1) * k + c - k = j * k + c by rw [Nat.succ_mul]; omega, flatE_get hk l j c (by simpa using h) hc]; rfl
theorem flatE_take (hk : ∀ x, (enc x).length = k) : ∀ (l : List α) (n : Nat), (l.flatMap enc).take (n * k) = (l.take n).flatMap enc
  | [], n => by simp
  | x :: l, 0 => by simp
  | x :: l, n + 1 => by
    rw [List.flatMap_cons, List.take_succ_cons, List.flatMap_cons, List.take_append, hk, show (n + 1) * k - k = n * k by rw [Nat.succ_mul]; omega, flatE_take hk l n, List.take_of_length_le (by rw [hk, Nat.succ_mul]; omega)]
theorem flatE_drop (hk : ∀ x, (enc x).length = k) : ∀ (l : List α) (n : Nat), (l.flatMap enc).drop (n * k) = (l.drop n).flatMap enc
  | [], n => by simp
  | x :: l, 0 => by simp
  | x :: l, n + 1 => by
    rw [List.flatMap_cons, List.drop_succ_cons, List.drop_append, hk, show (n + 1) * k - k = n * k by rw [Nat.succ_mul]; omega, flatE_drop hk l n, List.drop_of_length_le (by rw [hk, Nat.succ_mul]; omega), List.nil_append]

/-- The elements l lie at v, in a block of the call's own between lo and hi. -/
def OwE (T : TypeId) (lo hi : Nat) (w : World) (v : Value) (l : List α) : Prop := w.ownsRow lo T k v l.length (l.flatMap enc) ∧ ∀ b, v.ownBlock = some b → b < hi
variable {enc : α → List Value} {k : Nat} {T : TypeId} {lo hi : Nat} {w w' : World} {v : Value} {l : List α}
theorem ownsK_kept {a b n : Nat} {xs : List Value} (h : w.ownsRow lo T k v n xs) (hv : ∀ b, v.ownBlock = some b → b < hi) (hk : Kept a b w w') (hd : hi ≤ a ∨ b ≤ lo) : w'.ownsRow lo T k v n xs := by
  obtain ⟨h1, h2⟩ := h
  refine ⟨h1, ?_⟩
  rcases h2 with h2 | ⟨g, cap, cur, rfl, hg, hh, hr⟩
  · exact .inl h2
  · have := hv g rfl
    exact .inr ⟨g, cap, cur, rfl, hg, by rw [hk.block g (lt_of_heap hh) (by omega)]; exact hh, hr⟩
theorem OwE.kept {a b : Nat} (h : OwE enc k T lo hi w v l) (hk : Kept a b w w') (hd : hi ≤ a ∨ b ≤ lo) : OwE enc k T lo hi w' v l := ⟨ownsK_kept h.1 h.2 hk hd, h.2⟩
theorem OwE.below (h : OwE enc k T lo hi w v l) (hb : Below w.heap.size w w') : OwE enc k T lo hi w' v l :=
  h.kept (Kept.of_below (lo := hi) (hi := hi) hb) (.inl (Nat.le_refl _))
theorem OwE.mono {lo' hi' : Nat} (h : OwE enc k T lo hi w v l) (h1 : lo' ≤ lo) (h2 : hi ≤ hi') : OwE enc k T lo' hi' w v l :=
  ⟨Go.Joins.ownsRow_le h.1 h1, fun b hb => Nat.lt_of_lt_of_le (h.2 b hb) h2⟩
theorem OwE.grown {r : Option Nat} (h : OwE enc k T lo hi w v l) (hg : w.grownBy w' r) (hne : ∀ b, v.ownBlock = some b → r ≠ some b) : OwE enc k T lo hi w' v l := by
  obtain ⟨⟨h1, h2⟩, h3⟩ := h
  refine ⟨⟨h1, ?_⟩, h3⟩
  rcases h2 with h2 | ⟨g, cap, cur, rfl, hg', hh, hr⟩
  · exact .inl h2
  · exact .inr ⟨g, cap, cur, rfl, hg', by rw [hg.block g (lt_of_heap hh) (fun e => hne g rfl e.symm)]; exact hh, hr⟩
theorem OwE.nil : OwE enc k T lo hi w (.slice none 0 0) ([] : List α) := ⟨World.ownsRow_nil _ _ _ _, fun b hb => by cases hb⟩
theorem OwE.shape (h : OwE enc k T lo hi w v l) : ∃ (a : Option Addr) (c : Nat), v = .slice a l.length c ∧ l.length ≤ c ∧ c ≤ maxLen := owns_slice h.1
/-- Element j: its cells. -/
theorem OwE.at (hk : ∀ x, (enc x).length = k) (h : OwE enc k T lo hi w v l) (j : Nat) (hj : j < l.length) (k0 : 0 < k) {a : Option Addr} {n c : Nat} (hv : v = .slice a n c) :
    ∃ b : Nat, a = some ⟨b, 0, none⟩ ∧ n = l.length ∧ lo ≤ b ∧ b < hi ∧ b < w.heap.size ∧ l.length ≤ c ∧ (∀ i, i < k → w.cell? ⟨b, j * k + i, none⟩ = (enc l[j])[i]?) ∧ ∀ i, w.frozen? ⟨b, i, none⟩ = false := by
  obtain ⟨k2, k3⟩ := h
  obtain ⟨g, cap, e1⟩ := Go.Joins.ownsRow_form k2 (by omega)
  subst e1
  simp only [Value.slice.injEq] at hv
  obtain ⟨rfl, rfl, rfl⟩ := hv
  have hlt := k2.lt g rfl
  have hc : l.length ≤ cap := by
    rcases k2.2 with ⟨k7, _⟩ | ⟨g', cap', cur, e2, _, _, k9, _⟩
    · cases k7
    · simp only [Value.slice.injEq] at e2
      rw [e2.2.2]; exact k9
  refine ⟨g, rfl, rfl, hlt.1, k3 g rfl, hlt.2, hc, fun i hi => ?_, fun i => k2.frozenAt i⟩
  have hb : j * k + i < l.length * k := by
    have := Nat.mul_le_mul_right k (show j + 1 ≤ l.length from hj)
    rw [Nat.succ_mul] at this; omega
  rw [k2.cellAt _ hb, flatE_get enc k hk l j i hj hi]
/-- The first m elements. -/
theorem OwE.cut (hk : ∀ x, (enc x).length = k) {g n c m : Nat} (h : OwE enc k T lo hi w (.slice (some ⟨g, 0, none⟩) n c) l) (hm : m ≤ l.length) : OwE enc k T lo hi w (.slice (some ⟨g, 0, none⟩) m c) (l.take m) := by
  obtain ⟨h1, h2⟩ := h
  obtain ⟨g', cap, e1, _⟩ := owns_slice h1
  simp only [Value.slice.injEq] at e1
  obtain ⟨_, rfl, _⟩ := e1
  have h3 := ownsCut h1 hm
  rw [flatE_take enc k hk] at h3
  refine ⟨by rw [List.length_take, Nat.min_eq_left hm]; exact h3, fun b hb => h2 b hb⟩
end

/-- The cells of a point. -/
def encP (p : P2) : List Value := [.int .i64 p.1, .int .i64 p.2, .int .i64 0]
theorem encP_len (p : P2) : (encP p).length = 3 := rfl
theorem encP_one (p : P2) : ∀ v ∈ encP p, v.oneCell' = true := by
  intro v hv
  simp only [encP, List.mem_cons, List.not_mem_nil, or_false] at hv
  rcases hv with rfl | rfl | rfl <;> rfl
theorem flatP_one (l : List P2) : ∀ v ∈ l.flatMap encP, v.oneCell' = true := by
  intro v hv
  obtain ⟨p, _, h⟩ := List.mem_flatMap.1 hv
  exact encP_one p v h
theorem info_nums : (Tryz.prog.info? 43).map (fun i => (i.zero, i.size, i.bytes)) = some (some (.agg #[.int .i64 0, .int .i64 0, .int .i64 0]), 3, 24) := by kernel_rfl
abbrev OwP (lo hi : Nat) (w : World) (v : Value) (l : List P2) : Prop := OwE encP 3 43 lo hi w v l
theorem OwE.at3 {lo hi : Nat} {w : World} {v : Value} {l : List P2} (h : OwP lo hi w v l) (j : Nat) (hj : j < l.length) {a : Option Addr} {n c : Nat} (hv : v = .slice a n c) :
    ∃ b : Nat, a = some ⟨b, 0, none⟩ ∧ n = l.length ∧ lo ≤ b ∧ b < hi ∧ b < w.heap.size ∧ l.length ≤ c ∧ (w.cell? ⟨b, j * 3, none⟩ = some (.int .i64 l[j].1) ∧ w.cell? ⟨b, j * 3 + 1, none⟩ = some (.int .i64 l[j].2) ∧ w.cell? ⟨b, j * 3 + 2, none⟩ = some (.int .i64 0)) ∧ ∀ i, w.frozen? ⟨b, i, none⟩ = false := by
  obtain ⟨b, h1, h2, h3, h4, h5, h6, h7, h8⟩ := OwE.at encP_len h j hj (by omega) hv
  exact ⟨b, h1, h2, h3, h4, h5, h6, ⟨h7 0 (by omega), h7 1 (by omega), h7 2 (by omega)⟩, h8⟩
theorem flatP_put : ∀ (l : List P2) (j : Nat) (p : P2), (((l.flatMap encP).set (j * 3) (.int .i64 p.1)).set (j * 3 + 1) (.int .i64 p.2)).set (j * 3 + 2) (.int .i64 0) = (l.set j p).flatMap encP
  | [], j, p => by simp
  | x :: l, 0, p => by simp [encP]
  | x :: l, j + 1, p => by
    have ih := flatP_put l j p
    rw [show (j + 1) * 3 = j * 3 + 1 + 1 + 1 from by omega]
    simp only [List.flatMap_cons, encP, List.cons_append, List.nil_append, List.set_cons_succ, show j * 3 + 1 + 1 + 1 + 1 = j * 3 + 1 + 1 + 1 + 1 from rfl, show j * 3 + 1 + 1 + 1 + 2 = j * 3 + 2 + 1 + 1 + 1 from rfl, ← ih]
/-- A point is stored at place j. -/
theorem OwE.put3 {lo hi : Nat} {w : World} {b n c : Nat} {l : List P2} (h : OwP lo hi w (.slice (some ⟨b, 0, none⟩) n c) l) (j : Nat) (hj : j < l.length) (p : P2) :
    OwP lo hi (((w.setCell ⟨b, j * 3, none⟩ (.int .i64 p.1)).setCell ⟨b, j * 3 + 1, none⟩ (.int .i64 p.2)).setCell ⟨b, j * 3 + 2, none⟩ (.int .i64 0)) (.slice (some ⟨b, 0, none⟩) n c) (l.set j p) := by
  obtain ⟨k2, k3⟩ := h
  obtain ⟨g, cap, e1⟩ := Go.Joins.ownsRow_form k2 (by omega)
  simp only [Value.slice.injEq, Option.some.injEq, Addr.mk.injEq] at e1
  obtain ⟨⟨rfl, _, _⟩, rfl, rfl⟩ := e1
  have hst := ((((k2.stored (j * 3) (.int .i64 p.1)).1).stored (j * 3 + 1) (.int .i64 p.2)).1.stored (j * 3 + 2) (.int .i64 0)).1
  rw [flatP_put l j p] at hst
  exact ⟨by rw [List.length_set]; exact hst, k3⟩
theorem made_zerosP (n : Nat) : (madeCells #[.int .i64 0, .int .i64 0, .int .i64 0] (n * 3)).toList = (List.replicate n ((0, 0) : P2)).flatMap encP := by
  refine List.ext_getElem? fun i => ?_
  have hl := flatE_len encP 3 encP_len (List.replicate n ((0, 0) : P2))
  rw [List.length_replicate] at hl
  by_cases hi : i < n * 3
  · have e1 : (madeCells #[.int .i64 0, .int .i64 0, .int .i64 0] (n * 3)).toList[i]? = some ((#[Value.int .i64 0, .int .i64 0, .int .i64 0] : Array Value)[i % 3]!) := by
      unfold madeCells
      rw [Array.getElem?_toList, Array.getElem?_map]
      simp [hi]
    have hj : i / 3 < (List.replicate n ((0, 0) : P2)).length := by simp; omega
    have g := fun c hc => flatE_get encP 3 encP_len (List.replicate n ((0, 0) : P2)) (i / 3) c hj hc
    simp only [List.getElem_replicate] at g
    rw [e1]
    have h3 : i % 3 < 3 := Nat.mod_lt _ (by omega)
    rcases (by omega : i % 3 = 0 ∨ i % 3 = 1 ∨ i % 3 = 2) with h | h | h <;> rw [h]
    · rw [show i = i / 3 * 3 + 0 by omega, g 0 (by omega)]; rfl
    · rw [show i = i / 3 * 3 + 1 by omega, g 1 (by omega)]; rfl
    · rw [show i = i / 3 * 3 + 2 by omega, g 2 (by omega)]; rfl
  · rw [List.getElem?_eq_none (by rw [Array.length_toList, size_madeCells]; omega), List.getElem?_eq_none (by rw [hl]; omega)]
theorem OwE.zeros3 {base lo hi : Nat} {w : World} {b n : Nat} (h : w.ownsRow base 43 3 (.slice (some ⟨b, 0, none⟩) n n) n (madeCells #[.int .i64 0, .int .i64 0, .int .i64 0] (n * 3)).toList) (hlo : lo ≤ base) (hhi : b < hi) : OwP lo hi w (.slice (some ⟨b, 0, none⟩) n n) (List.replicate n (0, 0)) := by
  rw [made_zerosP] at h
  refine ⟨?_, fun x hx => (show b = x by simpa [Value.ownBlock] using hx) ▸ hhi⟩
  rw [List.length_replicate]
  exact Go.Joins.ownsRow_le h hlo
end Go.Proofs.YtjijgagdaolkcaaGreat
/- The program's points of polygons: what is a corner. -/
namespace Go.Proofs.YtjijgagdaolkcaaGreat
open Go.RowKit Go.Lib

/-- Where the first number lies that is no coordinate, or -1. -/
def IdxCo (v : List Int) (w : World) (e : Ending) (w' : World) : Prop :=
  ((small v 50 = true ∧ e = .returned (.int .i64 (-1))) ∨ (small v 50 = false ∧ ∃ k : Nat, e = .returned (.int .i64 k))) ∧ Below w.heap.size w w'

theorem small_wide {v : List Int} (h : small v 50 = true) : small v 1000 = true := by
  unfold small at *
  rw [List.all_eq_true] at *
  intro x hx
  have := inR_t (h x hx)
  exact inR_mk (by omega) (by omega)
/-- Whether a row is a point of the plane within bounds. -/
def flat1 (v : List Int) : Bool := decide (v.length = 2) && small v 50
theorem flatR_all (l : List (List Int)) : flatR l = l.all flat1 := rfl
theorem flat1_of {v : List Int} (h : (isV v && decide (v.length = 2)) = true) : flat1 v = small v 50 := by
  rw [Bool.and_eq_true] at h
  unfold flat1
  rw [h.2, Bool.true_and]
theorem flat1_not {v : List Int} (h : (isV v && decide (v.length = 2)) = false) : flat1 v = false := by
  cases hf : flat1 v with
  | false => rfl
  | true =>
    unfold flat1 at hf
    rw [Bool.and_eq_true] at hf
    have hl := of_decide_eq_true hf.1
    rw [hf.1, Bool.and_true, isV_mk (by omega) (by omega), small_wide hf.2] at h
    cases h
/-- Where the first row lies that is no corner, or -1. -/
def IdxR (l : List (List Int)) (w : World) (e : Ending) (w' : World) : Prop :=
  ((flatR l = true ∧ e = .returned (.int .i64 (-1))) ∨ (flatR l = false ∧ ∃ k : Nat, e = .returned (.int .i64 k))) ∧ Below w.heap.size w w'
theorem flatR_take {l : List (List Int)} {k : Nat} (h : k < l.length) (h1 : flatR (l.take k) = true) (h2 : flat1 l[k] = true) : flatR (l.take (k + 1)) = true := by
  rw [List.take_succ_eq_append_getElem h]
  rw [flatR_all] at *
  rw [List.all_append, h1, List.all_cons, h2]; rfl
theorem flatR_not {l : List (List Int)} {k : Nat} (h : k < l.length) (h2 : flat1 l[k] = false) : flatR l = false := by
  rw [flatR_all, List.all_eq_false]
  exact ⟨l[k], List.getElem_mem h, by rw [h2]; simp⟩
end Go.Proofs.YtjijgagdaolkcaaGreat
/- The model's turns; rows that are points of the plane. -/
namespace Go.Proofs.YtjijgagdaolkcaaGreat
open Go.RowKit Go.Lib

theorem row_cells {w : World} {a : Value} {p : P2} (h : Sl w a (intVals (rowOf p))) : ∃ b off c : Nat, a = .slice (some ⟨b, off, none⟩) 2 c ∧ 2 ≤ c ∧ b < w.heap.size ∧ w.cell? ⟨b, off, none⟩ = some (.int .i64 p.1) ∧ w.cell? ⟨b, off + 1, none⟩ = some (.int .i64 p.2) := by
  obtain ⟨ad, c, rfl, _, ho⟩ := h.shape
  obtain ⟨b, off, rfl, hc, hlt, hx⟩ := ho (by simp [intVals, rowOf])
  exact ⟨b, off, c, by simp [intVals, rowOf], by simpa [intVals, rowOf] using hc, hlt, hx 0 _ rfl, hx 1 _ rfl⟩
theorem prodT {x y : Int} (hx : -4000 ≤ x ∧ x ≤ 4000) (hy : -4000 ≤ y ∧ y ≤ 4000) : -16000000 ≤ x * y ∧ x * y ≤ 16000000 := mul_bd hx.1 hx.2 hy.1 hy.2
theorem lessL_row (p q : P2) : lessL (rowOf p) (rowOf q) = rowOf (p.1 - q.1, p.2 - q.2) := rfl
/-- Within bounds. -/
def BdP (n : Int) (p : P2) : Prop := (-n ≤ p.1 ∧ p.1 ≤ n) ∧ -n ≤ p.2 ∧ p.2 ≤ n
theorem BdP.bd {n : Int} {p : P2} (h : BdP n p) : Bd (rowOf p) n := by
  intro k hk
  rcases (by simp [rowOf] at hk; omega : k = 0 ∨ k = 1) with rfl | rfl
  · exact h.1
  · exact h.2
theorem BdP.less {n m r : Int} {p q : P2} (h : BdP n p) (k : BdP m q) (hr : n + m ≤ r) : BdP r (p.1 - q.1, p.2 - q.2) := by
  unfold BdP at *
  simp only
  omega
theorem turn_eq (a b c : P2) : (b.1 - a.1) * (c.2 - b.2) - (b.2 - a.2) * (c.1 - b.1) = turnP a b c := by
  unfold turnP
  grind
end Go.Proofs.YtjijgagdaolkcaaGreat
/- Facts on bending that both sides want. -/
namespace Go.Proofs.YtjijgagdaolkcaaGreat
open Go.RowKit Go.Lib

theorem grown_ofb {w w' : World} {r : Option Nat} (h : Below w.heap.size w w') : w.grownBy w' r := ⟨h.os, h.tape, h.output, h.size, fun q hq _ => h.block q hq⟩
theorem keepP2 {w W : World} {p q : Addr} {x y : Value} (h1 : W.cell? p = some x) (h2 : W.cell? q = some y) (h3 : Below w.heap.size w W) : W.drew.cell? p = some x ∧ W.drew.cell? q = some y ∧ Below w.heap.size w W.drew := ⟨h1, h2, h3.drew⟩
theorem keepQ2 {w W w1 : World} {p q : Addr} {x y : Value} (hp : p.block < w.heap.size) (hq : q.block < w.heap.size) (h1 : W.cell? p = some x) (h2 : W.cell? q = some y) (h3 : Below w.heap.size w W) (hb : Below W.heap.size W w1) :
    w1.cell? p = some x ∧ w1.cell? q = some y ∧ Below w.heap.size w w1 :=
  ⟨(hb.cell (Nat.lt_of_lt_of_le hp h3.size)).trans h1, (hb.cell (Nat.lt_of_lt_of_le hq h3.size)).trans h2, h3.trans (hb.mono h3.size)⟩
theorem egen {F : Exit → Act → World → Prop} {e : Exit} {a : Act} {w : World} (h : ∀ W, W = w → F e a W) : F e a w := h w rfl
def slen : Value → Nat
  | .slice _ n _ => n
  | _ => 0
theorem bendR_take {L : List P2} {k : Nat} (h : k < L.length) : bendR (L.take (k + 1)) = L[k] :: popR (bendR (L.take k)) L[k] := by
  unfold bendR
  rw [List.take_succ_eq_append_getElem h, List.foldl_append]; rfl
theorem bend_take_ok {L : List P2} (k : Nat) : (∀ p ∈ bendR (L.take k), p ∈ L) ∧ (bendR (L.take k)).length ≤ L.length := by
  constructor
  · intro p hp
    rcases bendR_mem (L.take k) [] p hp with h | h
    · cases h
    · exact List.mem_of_mem_take h
  · have := bendR_len (L.take k) []
    rw [List.length_take] at this
    unfold bendR
    simp only [List.length_nil] at this; omega
theorem BdP.wide {n m : Int} {p : P2} (h : BdP n p) (hm : n ≤ m) : BdP m p := by unfold BdP at *; omega
theorem bend_full {L : List P2} (h : 0 < L.length) : ∃ x t, bendR L = x :: t := by
  match L, h with
  | y :: l, _ =>
    unfold bendR
    rw [List.foldl_cons]
    have : ∀ (l acc : List P2), acc ≠ [] → l.foldl stepR acc ≠ [] := by
      intro l
      induction l with
      | nil => intro acc h; exact h
      | cons z l ih => intro acc _; exact ih _ (by simp [stepR])
    match hq : l.foldl stepR (stepR [] y), this l (stepR [] y) (by simp [stepR]) with
    | x :: t, _ => exact ⟨x, t, rfl⟩

end Go.Proofs.YtjijgagdaolkcaaGreat
/- The program's turns. -/
namespace Go.Proofs.YtjijgagdaolkcaaGreat
open Go Go.RowKit Go.Lib

set_option maxRecDepth 100000 in
set_option maxHeartbeats 800000 in
theorem i_cross4 (a b c d e f : Int) (ha : -4000 ≤ a ∧ a ≤ 4000) (hb : -4000 ≤ b ∧ b ≤ 4000) (hc : -4000 ≤ c ∧ c ≤ 4000) (hd : -4000 ≤ d ∧ d ≤ 4000) (he : -4000 ≤ e ∧ e ≤ 4000) (hf : -4000 ≤ f ∧ f ≤ 4000) (w : World) :
    Calls Tryz.prog 84 #[.agg #[.int .i64 a, .int .i64 b, .int .i64 c], .agg #[.int .i64 d, .int .i64 e, .int .i64 f]] w (Arr w (b * f - c * e) (c * d - a * f) (a * e - b * d)) := by
  obtain ⟨p1, q1⟩ := prodT hb hf
  obtain ⟨p2, q2⟩ := prodT hc he
  obtain ⟨p3, q3⟩ := prodT hc hd
  obtain ⟨p4, q4⟩ := prodT ha hf
  obtain ⟨p5, q5⟩ := prodT ha he
  obtain ⟨p6, q6⟩ := prodT hb hd
  clear ha hb hc hd he hf
  go_enter Tryz.func84, Tryz.ntmps84
  go_wp2
  refine bodyPost_ret (v := .agg #[.int .i64 (b * f - c * e), .int .i64 (c * d - a * f), .int .i64 (a * e - b * d)]) ?_ rfl ⟨rfl, ?_⟩
  · simp [results, Tryz.results84, go_sem]
  · exact (((Below.refl _ _).alloc (Nat.le_refl _) _).alloc (by simp) _).alloc (by simp; omega) _

/-- A point as the program holds it. -/
def ptV (p : P2) : Value := .agg #[.int .i64 p.1, .int .i64 p.2, .int .i64 0]
theorem bk3c {w : World} {b : Nat} {x y z : Value} {T : TypeId} (h : Bk w b #[x, y, z] T) : w.cell? ⟨b, 0, none⟩ = some x ∧ w.cell? ⟨b, 1, none⟩ = some y ∧ w.cell? ⟨b, 2, none⟩ = some z := ⟨h.cell 0 rfl, h.cell 1 rfl, h.cell 2 rfl⟩
end Go.Proofs.YtjijgagdaolkcaaGreat
/- The model's l8Leader. -/
namespace Go.Proofs.YtjijgagdaolkcaaGreat
open Go Go.RowKit Go.Lib

/-- What the loop of l8Leader meets at column k. -/
def LeadOk (h : List (List Int)) (x : List Int) : Prop :=
  x.length = h.length ∧ ∀ k, k < h.length → ∃ r, h[k]? = some r ∧ r.length = h.length ∧ (leadS h x k).length = h.length ∧ 0 < colA k r ∧ colA k r ≤ 1000 ∧ Bd (leadS h x k) 1000000000000 ∧ Bd (scaleL r (colA k (leadS h x k) / colA k r)) 1000000000000
theorem leadS_step {h : List (List Int)} {x r : List Int} {k : Nat} (hr : h[k]? = some r) : leadS h x (k + 1) = lessL (leadS h x k) (scaleL r (colA k (leadS h x k) / colA k r)) := by
  show lessL (leadS h x k) (scaleL (h.getD k []) _) = _
  rw [show h.getD k [] = r by rw [List.getD_eq_getElem?_getD, hr]; rfl]
/-- Rows with small numbers, each with a positive number in its own column. -/
theorem leadOk_mk {h : List (List Int)} {x : List Int} (hx : x.length = h.length) (h3 : h.length ≤ 3) (hxb : Bd x 1000) (hr : ∀ k, k < h.length → ∃ r, h[k]? = some r ∧ r.length = h.length ∧ 0 < colA k r ∧ Bd r 500) : LeadOk h x := by
  have key : ∀ k, k ≤ h.length → (leadS h x k).length = h.length ∧ Bd (leadS h x k) (1000 * 501 ^ k) := by
    intro k
    induction k with
    | zero => intro _; exact ⟨hx, by simpa [leadS] using hxb⟩
    | succ k ih =>
      intro hk
      obtain ⟨i1, i2⟩ := ih (by omega)
      obtain ⟨r, e, rl, rp, rb⟩ := hr k (by omega)
      rw [leadS_step e]
      have hp : (0 : Int) ≤ 1000 * 501 ^ k := by have : (0 : Int) < 501 ^ k := Int.pow_pos (by omega); omega
      have c := colA_le (c := k) hp i2
      have f := floor_bd rp c.1 c.2
      refine ⟨by rw [lessL_len (by simp [scaleL, rl, i1]), i1], ?_⟩
      have b := less_bd i2 (scale_bd (by omega) hp rb f.1 f.2)
      exact bd_up b (by rw [Int.pow_succ]; omega)
  refine ⟨hx, fun k hk => ?_⟩
  obtain ⟨i1, i2⟩ := key k (by omega)
  obtain ⟨r, e, rl, rp, rb⟩ := hr k hk
  have hp : (0 : Int) ≤ 1000 * 501 ^ k := by have : (0 : Int) < 501 ^ k := Int.pow_pos (by omega); omega
  have hk2 : (501 : Int) ^ k ≤ 501 ^ 2 := by
    rcases (by omega : k = 0 ∨ k = 1 ∨ k = 2) with rfl | rfl | rfl <;> decide
  have c := colA_le (c := k) hp i2
  have f := floor_bd rp c.1 c.2
  have d := colA_le (c := k) (by omega) rb
  exact ⟨r, e, rl, i1, rp, by omega, bd_up i2 (by omega), bd_up (scale_bd (by omega) hp rb f.1 f.2) (by omega)⟩

set_option maxRecDepth 100000 in
set_option maxHeartbeats 4000000 in
theorem s_leader (h : List (List Int)) (x : List Int) (h1 : 1 ≤ h.length) (h3 : h.length ≤ 3) (hok : LeadOk h x) (v u : Value) (w : World) (hv : Rw w v h) (hu : Sl w u (intVals x)) :
    Calls Tryz.prog 38 #[v, u] w (Made w (leadL h x)) := by
  have HV := Lib.hid hv
  obtain ⟨a, ac, rfl, am, _⟩ := hv.shape
  obtain ⟨b, bc, rfl, bm, hb⟩ := hu.shape
  rw [intVals_len] at bm hb ⊢
  unfold maxLen at am bm
  obtain ⟨hxl, hk⟩ := hok
  have HK := Lib.hid hk
  obtain ⟨b2, o2, rfl, _, hlt2, hx2⟩ := hb (by rw [hxl]; omega)
  have HX := Lib.hid hx2
  have HXL := Lib.hid hxl
  clear hv hu hb hx2 hk
  have C3 := Lib.hid (show w.heap.size ≤ (w.alloc (.cells #[] 3)).heap.size by rw [World.size_alloc]; omega)
  have ix1 : 1 ≤ x.length := by omega
  have ix3 : x.length ≤ 3 := by omega
  clear hxl
  unfold leadL
  go_enter Tryz.func38, Tryz.ntmps38
  go_wp2_with (at_builtin; refine list_app_sl rfl _ _ rfl w.heap.size _ 0 [] x rfl (owns_none (Nat.le_refl _)) ⟨b2, o2, none⟩ x.length bc rfl rfl (cells_below ((Below.refl _ _).alloc (Nat.le_refl _) _) hlt2 HX.out) (by omega) C3.out ?_; intro v1 w1 hown1 hbel1
               have ho : OwnV 3 w.heap.size w1.heap.size w1 v1 (intVals x) := OwnV.of_owns (by rw [List.nil_append] at hown1; exact hown1)
               have O0 := Lib.hid ho
               have B0 := Lib.hid (((Below.refl _ _).alloc (Nat.le_refl _) (.cells #[] 3)).trans hbel1)
               clear ho hown1 hbel1)
  go_loopw [5, 6] (fun o i wr => ∃ k : Nat, k ≤ h.length ∧ i = .int .i64 k ∧ OwnV 3 w.heap.size wr.heap.size wr o (intVals (leadS h x k)) ∧ Below w.heap.size w wr) (fun _ i _ => h.length - (RowKit.intOf i).toNat)
  case atStart => exact ⟨0, Nat.zero_le _, rfl, O0.out, B0.out⟩
  case round =>
    obtain ⟨k, hk, rfl, ho, hb⟩ := hrel
    rename World => wr
    have HO := Lib.hid ho
    have HB := Lib.hid hb
    clear ho hb
    by_cases hlt : k < h.length
    · have i1 : (0 : Int) ≤ (k : Int) := by omega
      have i2 : (k : Int) < (h.length : Int) := by omega
      obtain ⟨r, er, rl, il, rp, rp2, lb, sb⟩ := HK.out k hlt
      have ER := Lib.hid er
      obtain ⟨hb1, hbo, ru, rfl, hrl, hrc, hrs⟩ := HV.out.row k hlt rfl
      have eh : h[k] = r := by rw [List.getElem?_eq_getElem hlt] at er; exact Option.some.inj er
      rw [eh] at hrs
      rw [← HB.out.cell (p := ⟨hb1, hbo + k, none⟩) hrl] at hrc
      have hrs2 := hrs.below HB.out
      obtain ⟨ra, rc, rfl, rm, rsh⟩ := hrs2.shape
      rw [intVals_len, rl] at rsh hrc hrs hrs2
      obtain ⟨rb, ro, rfl, rcl, rlt, rx⟩ := rsh (by omega)
      have ek : r[k]? = some (colA k r) := by rw [colA_get (by omega)]; exact List.getElem?_eq_getElem (by omega)
      have hrk := rx k (.int .i64 (colA k r)) (by simp [intVals, ek])
      obtain ⟨og, oc, rfl, og1, og2⟩ := HO.out.form (by rw [intVals_len, il]; omega)
      rw [intVals_len, il] at HO ⊢
      have eo : (leadS h x k)[k]? = some (colA k (leadS h x k)) := by rw [colA_get (by omega)]; exact List.getElem?_eq_getElem (by omega)
      obtain ⟨_, _, eo2, _, ox⟩ := (HO.out.sl.get (v := leadS h x k) k (by omega))
      cases eo2
      have hok : wr.cell? ⟨og, k, none⟩ = some (.int .i64 (colA k (leadS h x k))) := by
        rw [Nat.zero_add] at ox; rw [ox, colA_get (by omega)]
      have LS := Lib.hid (leadS_step (x := x) er)
      have LB := Lib.hid lb
      have SB := Lib.hid sb
      have IL := Lib.hid il
      have RL := Lib.hid rl
      have RP := Lib.hid rp
      have RP2 := Lib.hid rp2
      have RS := Lib.hid hrs2
      clear er ER lb sb il rl rp rp2 hrs hrs2 rsh rm rcl rx ek eo ox HK HX HXL eh
      generalize leadS h x k = l at HO LS LB SB IL hok
      obtain ⟨q, hq⟩ : ∃ q, colA k l = q := ⟨_, rfl⟩
      obtain ⟨d, hd⟩ : ∃ d, colA k r = d := ⟨_, rfl⟩
      rw [hq] at hok LS SB
      rw [hd] at hrk LS SB RP RP2
      have CF := Lib.hid (fun W => s_floor q d (by have := colA_le (c := k) (by omega) LB.out; omega) (by have := colA_le (c := k) (by omega) LB.out; omega) RP.out (by have := RP2.out; omega) W)
      have CS := Lib.hid (fun W A hA => s_scale2 r (by have := RL.out; omega) (q / d) (bd_up SB.out (by omega)) A W hA)
      have hsl : (scaleL r (q / d)).length = r.length := by simp [scaleL]
      have CM := Lib.hid (fun W A B hA hB => s_less l (scaleL r (q / d)) (by have := IL.out; have := RL.out; omega) (by have := IL.out; omega) 1000000000000 (by omega) LB.out SB.out A B W hA hB)
      clear hq hd hsl
      refine wgen ?_
      intro W hW
      obtain rfl := hW
      go_wp2_with fail
      refine T_begin (z := fun k => 18 < k) (S := fun w' => w'.cell? ⟨hb1, hbo + k, none⟩ = some (.slice (some ⟨rb, ro, none⟩) h.length rc) ∧ w'.cell? ⟨og, k, none⟩ = some (.int .i64 q) ∧ w'.cell? ⟨rb, ro + k, none⟩ = some (.int .i64 d)) (by kernel_rfl) ?_
      show wpAnyT _ _ _ _ _ _ 20 _ _ _
      have HS0 := Lib.hid (show (fun w' : World => w'.cell? ⟨hb1, hbo + k, none⟩ = some (.slice (some ⟨rb, ro, none⟩) h.length rc) ∧ w'.cell? ⟨og, k, none⟩ = some (.int .i64 q) ∧ w'.cell? ⟨rb, ro + k, none⟩ = some (.int .i64 d)) W.drew from ⟨hrc, hok, hrk⟩)
      refine T_take (i := 0) (v := .slice (some ⟨og, 0, none⟩) h.length oc) rfl (by kernel_rfl) (by kernel_rfl) (by kernel_rfl) (by kernel_rfl) (fun _ _ _ h => h) HS0.out rfl (fun w' hS' => by (try dsimp only at hS'); go_simp) ?_
      try simp only [Act.put, List.setIfInBounds_toArray]
      refine T_take (i := 1) (v := .slice (some ⟨hb1, hbo, none⟩) h.length ac) rfl (by kernel_rfl) (by kernel_rfl) (by kernel_rfl) (by kernel_rfl) (fun _ _ _ h => h) HS0.out rfl (fun w' hS' => by (try dsimp only at hS'); go_simp) ?_
      try simp only [Act.put]
      refine T_take (i := 2) (v := .int .i64 k) rfl (by kernel_rfl) (by kernel_rfl) (by kernel_rfl) (by kernel_rfl) (fun _ _ _ h => h) HS0.out rfl (fun w' hS' => by (try dsimp only at hS'); go_simp) ?_
      try simp only [Act.put]
      refine T_take (i := 3) (v := .pointer (some ⟨hb1, hbo + k, none⟩)) rfl (by kernel_rfl) (by kernel_rfl) (by kernel_rfl) (by kernel_rfl) (fun _ _ _ h => h) HS0.out rfl (fun w' hS' => by (try dsimp only at hS'); go_simp) ?_
      try simp only [Act.put]
      refine T_take (i := 4) (v := .slice (some ⟨rb, ro, none⟩) h.length rc) rfl (by kernel_rfl) (by kernel_rfl) (by kernel_rfl) (by kernel_rfl) (fun _ _ _ h => h) HS0.out rfl (fun w' hS' => by (try dsimp only at hS'); go_simp) ?_
      try simp only [Act.put]
      refine T_take (i := 5) (v := .slice (some ⟨og, 0, none⟩) h.length oc) rfl (by kernel_rfl) (by kernel_rfl) (by kernel_rfl) (by kernel_rfl) (fun _ _ _ h => h) HS0.out rfl (fun w' hS' => by (try dsimp only at hS'); go_simp) ?_
      try simp only [Act.put]
      refine T_take (i := 6) (v := .int .i64 k) rfl (by kernel_rfl) (by kernel_rfl) (by kernel_rfl) (by kernel_rfl) (fun _ _ _ h => h) HS0.out rfl (fun w' hS' => by (try dsimp only at hS'); go_simp) ?_
      try simp only [Act.put]
      refine T_take (i := 7) (v := .pointer (some ⟨og, k, none⟩)) rfl (by kernel_rfl) (by kernel_rfl) (by kernel_rfl) (by kernel_rfl) (fun _ _ _ h => h) HS0.out rfl (fun w' hS' => by (try dsimp only at hS'); go_simp) ?_
      try simp only [Act.put]
      refine T_take (i := 8) (v := .int .i64 q) rfl (by kernel_rfl) (by kernel_rfl) (by kernel_rfl) (by kernel_rfl) (fun _ _ _ h => h) HS0.out rfl (fun w' hS' => by (try dsimp only at hS'); go_simp) ?_
      try simp only [Act.put]
      refine T_take (i := 9) (v := .slice (some ⟨hb1, hbo, none⟩) h.length ac) rfl (by kernel_rfl) (by kernel_rfl) (by kernel_rfl) (by kernel_rfl) (fun _ _ _ h => h) HS0.out rfl (fun w' hS' => by (try dsimp only at hS'); go_simp) ?_
      try simp only [Act.put]
      refine T_take (i := 10) (v := .int .i64 k) rfl (by kernel_rfl) (by kernel_rfl) (by kernel_rfl) (by kernel_rfl) (fun _ _ _ h => h) HS0.out rfl (fun w' hS' => by (try dsimp only at hS'); go_simp) ?_
      try simp only [Act.put]
      refine T_take (i := 11) (v := .pointer (some ⟨hb1, hbo + k, none⟩)) rfl (by kernel_rfl) (by kernel_rfl) (by kernel_rfl) (by kernel_rfl) (fun _ _ _ h => h) HS0.out rfl (fun w' hS' => by (try dsimp only at hS'); go_simp) ?_
      try simp only [Act.put]
      refine T_take (i := 12) (v := .slice (some ⟨rb, ro, none⟩) h.length rc) rfl (by kernel_rfl) (by kernel_rfl) (by kernel_rfl) (by kernel_rfl) (fun _ _ _ h => h) HS0.out rfl (fun w' hS' => by (try dsimp only at hS'); go_simp) ?_
      try simp only [Act.put]
      refine T_take (i := 13) (v := .int .i64 k) rfl (by kernel_rfl) (by kernel_rfl) (by kernel_rfl) (by kernel_rfl) (fun _ _ _ h => h) HS0.out rfl (fun w' hS' => by (try dsimp only at hS'); go_simp) ?_
      try simp only [Act.put]
      refine T_take (i := 14) (v := .pointer (some ⟨rb, ro + k, none⟩)) rfl (by kernel_rfl) (by kernel_rfl) (by kernel_rfl) (by kernel_rfl) (fun _ _ _ h => h) HS0.out rfl (fun w' hS' => by (try dsimp only at hS'); go_simp) ?_
      try simp only [Act.put]
      refine T_take (i := 15) (v := .int .i64 d) rfl (by kernel_rfl) (by kernel_rfl) (by kernel_rfl) (by kernel_rfl) (fun _ _ _ h => h) HS0.out rfl (fun w' hS' => by (try dsimp only at hS'); go_simp) ?_
      try simp only [Act.put]
      refine T_step (i := 16) rfl (by kernel_rfl) rfl rfl ?_
      intro K hK
      go_simp
      refine (CF.out _).mono ?_
      rintro e w' ⟨rfl, rfl⟩
      refine hK.out _ _ HS0.out ?_
      clear hK K
      try simp only [Act.put, List.setIfInBounds_toArray, List.set_cons_zero, List.set_cons_succ]
      have hrl2 : hb1 < W.drew.heap.size := Nat.lt_of_lt_of_le hrl HB.out.size
      have og3 : og < W.drew.heap.size := og2
      have rlt2 : rb < W.drew.heap.size := rlt
      refine T_step (i := 17) rfl (by kernel_rfl) rfl rfl ?_
      intro K hK
      go_simp
      refine (CS.out W.drew _ (RS.out.below (Below.refl _ W).drew)).mono ?_
      rintro e V1 ⟨⟨vs, rfl, hs⟩, hb⟩
      have SO := Lib.hid hs
      have SB1 := Lib.hid (show Below W.heap.size W V1 from (Below.refl _ W).drew.trans hb)
      refine hK.out _ _ ⟨(hb.cell (p := ⟨hb1, hbo + k, none⟩) hrl2).trans hrc, (hb.cell (p := ⟨og, k, none⟩) og3).trans hok, (hb.cell (p := ⟨rb, ro + k, none⟩) rlt2).trans hrk⟩ ?_
      have hb0 := hb
      clear hK K hs hb
      try simp only [Act.put, List.setIfInBounds_toArray, List.set_cons_zero, List.set_cons_succ]
      refine T_step (i := 18) rfl (by kernel_rfl) rfl rfl ?_
      intro K hK
      go_simp
      refine (CM.out _ _ _ (HO.out.sl.below SB1.out) SO.out.sl).mono ?_
      rintro e V2 ⟨⟨vm, rfl, hm⟩, hb⟩
      have MO := Lib.hid hm
      have SB2 := Lib.hid (SB1.out.trans (hb.mono SB1.out.size))
      have hb2 := hb0.trans (hb.mono hb0.size)
      refine hK.out _ _ ⟨(hb2.cell (p := ⟨hb1, hbo + k, none⟩) hrl2).trans hrc, (hb2.cell (p := ⟨og, k, none⟩) og3).trans hok, (hb2.cell (p := ⟨rb, ro + k, none⟩) rlt2).trans hrk⟩ ?_
      clear hK K hm hb hb0 hb2
      try simp only [Act.put, List.setIfInBounds_toArray, List.set_cons_zero, List.set_cons_succ]
      refine T_last (i := 19) rfl (by kernel_rfl) (by kernel_rfl) rfl rfl ?_
      go_simp
      go_wp2
      refine ⟨⟨k + 1, by omega, by go_num, ?_, HB.out.trans (SB2.out.mono HB.out.size)⟩, by simp [RowKit.intOf]; omega⟩
      rw [LS.out]
      exact MO.out.mono (Nat.le_trans HB.out.size SB1.out.size) (Nat.le_refl _)
    · obtain rfl : k = h.length := by omega
      go_wp2
      go_ret
      exact ⟨⟨_, rfl, HO.out⟩, HB.out⟩
end Go.Proofs.YtjijgagdaolkcaaGreat
/- The model's copies of rows. -/
namespace Go.Proofs.YtjijgagdaolkcaaGreat
open Go.RowKit Go.Lib

theorem OwR.place0 {T e : TypeId} {lo hi : Nat} {w : World} {v : Value} {zss : List (List Int)} (h : OwR T e lo hi w v zss) {b : Nat} (hb : v.ownBlock = some b) : lo ≤ b := by
  obtain ⟨vs, _, h2, _⟩ := h
  exact (h2.place hb).1
theorem owr_none0 {T e : TypeId} {base : Nat} {w : World} {v : Value} (h : w.ownsRow base T 1 v 0 []) : OwR T e base w.heap.size w v [] :=
  ⟨[], rfl, OwnV.of_owns h, fun i u zs hu => by simp at hu, fun i j u u' b _ hu => by simp at hu, fun i u b hu => by simp at hu⟩
end Go.Proofs.YtjijgagdaolkcaaGreat
