/- Helpers of the polygons. -/
import Derived.Test.YtckpifcdlmfabaaVecK
import Derived.Test.YtckpifcdlmfabaaMai
import Derived.Test.YtckpifcdlmfabaaRowApp
import Derived.Test.YtckpifcdlmfabaaMab
import Derived.Test.YtckpifcdlmfabaaMeet
import Derived.Test.YtckpifcdlmfabaaOrd
import Derived.Deep.RegionHeld3
import Derived.Deep.Cut
import Derived.BigQuiet
import Derived.Lib.SmallJoins
import Derived.Shelf.Abstract
namespace Go.Proofs.Ytckpifcdlmfabaa
open Go Go.RowKit Go.Lib

theorem ownsCut {w : World} {base g n m cap : Nat} {T : TypeId} {k : Nat} {xs : List Value} (h : w.ownsRow base T k (.slice (some ⟨g, 0, none⟩) n cap) n xs) (hm : m ≤ n) : w.ownsRow base T k (.slice (some ⟨g, 0, none⟩) m cap) m (xs.take (m * k)) := by
  obtain ⟨h1, h2⟩ := h
  have hk : m * k ≤ n * k := Nat.mul_le_mul_right k hm
  refine ⟨by rw [List.length_take, h1]; omega, ?_⟩
  rcases h2 with ⟨h2, _⟩ | ⟨g', cap', cur, e, hg, hh, hn, hc, hs, ht⟩
  · cases h2
  · simp only [Value.slice.injEq, Option.some.injEq, Addr.mk.injEq] at e
    obtain ⟨⟨rfl, _, _⟩, _, rfl⟩ := e
    refine .inr ⟨g, cap, cur, rfl, hg, hh, by omega, hc, hs, ?_⟩
    rw [← ht, List.take_take, Nat.min_eq_left hk]
theorem getIns {α : Type} {l : List α} {x : α} {a i : Nat} (ha : a ≤ l.length) : (l.take a ++ x :: l.drop a)[i]? = if i < a then l[i]? else if i = a then some x else l[i - 1]? := by
  have hl : (l.take a).length = a := by rw [List.length_take]; omega
  by_cases h1 : i < a
  · rw [if_pos h1, List.getElem?_append_left (by omega), List.getElem?_take, if_pos h1]
  · rw [if_neg h1, List.getElem?_append_right (by omega), hl]
    by_cases h2 : i = a
    · rw [if_pos h2, h2, Nat.sub_self]; rfl
    · rw [if_neg h2, show i - a = (i - 1 - a) + 1 by omega, List.getElem?_cons_succ, List.getElem?_drop, show a + (i - 1 - a) = i - 1 by omega]
theorem grownTrans {w w1 w2 : World} {r r2 : Option Nat} (h : w.grownBy w1 r) (h2 : w1.grownBy w2 r2) (hr : ∀ b, r2 = some b → r = some b ∨ w.heap.size ≤ b) : w.grownBy w2 r :=
  ⟨h2.os.trans h.os, h2.tape.trans h.tape, h2.output.trans h.output, Nat.le_trans h.size h2.size, fun k hk hne => (h2.block k (Nat.lt_of_lt_of_le hk h.size) (fun e => by
    rcases hr k e.symm with h1 | h1
    · exact hne h1.symm
    · omega)).trans (h.block k hk hne)⟩
/-- append(points, none...): the points themselves. -/
theorem runNone {w : World} (base : Nat) (t ty e : TypeId) (i : TypeInfo) (size : Nat) (ht : Try.prog.underlying t = some (.slice e)) (hi : Try.prog.info? e = some i)
    (v : Value) (n : Nat) (xs : List Value) (hown : w.ownsRow base e size v n xs) (ad : Option Addr) (c : Nat) :
    (Builtin.append_ #[t, t] ty #[v, .slice ad 0 c]).run Try.prog w = .ok v w := by
  rcases hown.2 with ⟨rfl, rfl⟩ | ⟨g, cap, cur, rfl, _, _, hnc, _⟩
  · cases ad <;> simp [Builtin.append_, run_underlying ht, sizeOf, typeInfo, hi, Builtin.lenOf, Builtin.firstCells, loadCells, loadCellsFrom]
  · cases ad <;> simp [Builtin.append_, run_underlying ht, sizeOf, typeInfo, hi, Builtin.lenOf, Builtin.firstCells, hnc, storeCells, loadCells, loadCellsFrom]
theorem takeAllEq {α : Type} {u v : List α} {k : Nat} (hl : u.length = v.length) (hk : k = u.length) (h : u.take k = v.take k) : u = v := by
  subst hk
  rw [List.take_length, hl, List.take_length] at h
  exact h
theorem takeEqStep {α : Type} {u v : List α} {k : Nat} (h1 : k < u.length) (h2 : k < v.length) (h : u.take k = v.take k) (he : u[k] = v[k]) : u.take (k + 1) = v.take (k + 1) := by
  rw [List.take_succ_eq_append_getElem h1, List.take_succ_eq_append_getElem h2, h, he]
theorem getNe {α : Type} {u v : List α} {k : Nat} (h1 : k < u.length) (h2 : k < v.length) (he : ¬ u[k] = v[k]) : ¬ u = v := by
  intro e; subst e; exact he rfl
set_option maxRecDepth 100000 in
set_option maxHeartbeats 800000 in
theorem s_sameP (u v : List Int) (a b : Value) (w : World) (ha : Sl w a (intVals u)) (hb : Sl w b (intVals v)) :
    Calls Try.prog 110 #[a, b] w (Quiet w (.bool (decide (u = v)))) := by
  obtain ⟨a, c, rfl, hm, ha⟩ := ha.shape
  obtain ⟨b, d, rfl, _, hb⟩ := hb.shape
  rw [intVals_len] at ha hb hm
  rw [intVals_len, intVals_len]
  unfold maxLen at hm
  have HA := Lib.hid ha
  have HB0 := Lib.hid hb
  clear ha hb
  by_cases hl : u.length = v.length
  · have HL := Lib.hid hl
    rw [← hl] at HB0 ⊢
    clear hl
    go_enter Try.func110, Try.ntmps110
    go_wp2
    go_loopw [5] (fun i wr => ∃ k : Nat, k ≤ u.length ∧ i = .int .i64 k ∧ u.take k = v.take k ∧ Below w.heap.size w wr) (fun i _ => u.length - (RowKit.intOf i).toNat)
    case atStart => exact ⟨0, Nat.zero_le _, rfl, rfl, Below.refl _ _⟩
    case round =>
      obtain ⟨k, hk, rfl, ht, hbr⟩ := hrel
      have HB := Lib.hid hbr
      have HT := Lib.hid ht
      clear ht
      by_cases hlt : k < u.length
      · have hlt' : k < v.length := by have := HL.out; omega
        obtain ⟨b1, o1, rfl, hc1, hlt1, hx1⟩ := HA.out (by omega)
        obtain ⟨b2, o2, rfl, hc2, hlt2, hx2⟩ := HB0.out (by omega)
        have hcell1 := hx1 k _ (intVals_get u k hlt)
        have hcell2 := hx2 k _ (intVals_get v k hlt')
        rw [← hbr.cell (p := ⟨b1, o1 + k, none⟩) hlt1] at hcell1
        rw [← hbr.cell (p := ⟨b2, o2 + k, none⟩) hlt2] at hcell2
        clear hx1 hx2 hbr
        have i1 : (0 : Int) ≤ (k : Int) := by omega
        have i2 : (k : Int) < (u.length : Int) := by omega
        by_cases he : u[k] = v[k]
        · have HE := Lib.hid (takeEqStep hlt hlt' HT.out he)
          rw [← he] at hcell2
          clear he
          go_wp2
          go_quiet (fail)
          go_wp2
          exact ⟨⟨k + 1, by omega, by go_num, HE.out, below_drewN' HB.out _⟩, by simp [RowKit.intOf]; omega⟩
        · have HE := Lib.hid (getNe hlt hlt' he)
          have hne : (u[k] == v[k]) = false := by rw [beq_eq_false_iff_ne]; exact he
          have hne2 : (u[k] != v[k]) = true := by rw [bne_iff_ne]; exact he
          go_wp2
          go_quiet (fail)
          go_wp2
          go_ret
          exact ⟨ret_bool (decide_eq_false HE.out).symm, below_drewN' HB.out _⟩
      · obtain rfl : k = u.length := by omega
        have HE := Lib.hid (takeAllEq HL.out rfl HT.out)
        clear hbr
        go_wp2
        go_ret
        exact ⟨ret_bool (decide_eq_true HE.out).symm, HB.out⟩
  · have HE := Lib.hid (show ¬ u = v from fun e => hl (by rw [e]))
    have hne : ((u.length : Int) == (v.length : Int)) = false := by rw [beq_eq_false_iff_ne]; omega
    have hne2 : ((u.length : Int) != (v.length : Int)) = true := by rw [bne_iff_ne]; omega
    have hne3 : (u.length == v.length) = false := by rw [beq_eq_false_iff_ne]; exact hl
    have hne4 : (u.length != v.length) = true := by rw [bne_iff_ne]; exact hl
    go_enter Try.func110, Try.ntmps110
    go_wp2
    go_ret
    exact ⟨ret_bool (decide_eq_false HE.out).symm, Below.refl _ _⟩
set_option maxRecDepth 100000 in
set_option maxHeartbeats 800000 in
theorem i_sameP (u v : List Int) (a b : Value) (w : World) (ha : Sl w a (intVals u)) (hb : Sl w b (intVals v)) :
    Calls Try.prog 77 #[a, b] w (Quiet w (.bool (decide (u = v)))) := by
  obtain ⟨a, c, rfl, hm, ha⟩ := ha.shape
  obtain ⟨b, d, rfl, _, hb⟩ := hb.shape
  rw [intVals_len] at ha hb hm
  rw [intVals_len, intVals_len]
  unfold maxLen at hm
  have HA := Lib.hid ha
  have HB0 := Lib.hid hb
  clear ha hb
  by_cases hl : u.length = v.length
  · have HL := Lib.hid hl
    rw [← hl] at HB0 ⊢
    clear hl
    go_enter Try.func77, Try.ntmps77
    go_wp2
    go_loopw [5, 13] (fun _ i wr => ∃ k : Nat, k ≤ u.length ∧ i = .int .i64 k ∧ u.take k = v.take k ∧ Below w.heap.size w wr) (fun _ i _ => u.length - (RowKit.intOf i).toNat)
    case atStart => exact ⟨0, Nat.zero_le _, rfl, rfl, Below.refl _ _⟩
    case round =>
      obtain ⟨k, hk, rfl, ht, hbr⟩ := hrel
      have HB := Lib.hid hbr
      have HT := Lib.hid ht
      clear ht
      by_cases hlt : k < u.length
      · have hlt' : k < v.length := by have := HL.out; omega
        obtain ⟨b1, o1, rfl, hc1, hlt1, hx1⟩ := HA.out (by omega)
        obtain ⟨b2, o2, rfl, hc2, hlt2, hx2⟩ := HB0.out (by omega)
        have hcell1 := hx1 k _ (intVals_get u k hlt)
        have hcell2 := hx2 k _ (intVals_get v k hlt')
        rw [← hbr.cell (p := ⟨b1, o1 + k, none⟩) hlt1] at hcell1
        rw [← hbr.cell (p := ⟨b2, o2 + k, none⟩) hlt2] at hcell2
        clear hx1 hx2 hbr
        have i1 : (0 : Int) ≤ (k : Int) := by omega
        have i2 : (k : Int) < (u.length : Int) := by omega
        by_cases he : u[k] = v[k]
        · have HE := Lib.hid (takeEqStep hlt hlt' HT.out he)
          rw [← he] at hcell2
          clear he
          go_wp2
          go_quiet (fail)
          go_wp2
          exact ⟨⟨k + 1, by omega, by go_num, HE.out, below_drewN' HB.out _⟩, by simp [RowKit.intOf]; omega⟩
        · have HE := Lib.hid (getNe hlt hlt' he)
          have hne : (u[k] == v[k]) = false := by rw [beq_eq_false_iff_ne]; exact he
          have hne2 : (u[k] != v[k]) = true := by rw [bne_iff_ne]; exact he
          go_wp2
          go_quiet (fail)
          go_wp2
          go_ret
          exact ⟨ret_bool (decide_eq_false HE.out).symm, below_drewN' HB.out _⟩
      · obtain rfl : k = u.length := by omega
        have HE := Lib.hid (takeAllEq HL.out rfl HT.out)
        clear hbr
        go_wp2
        go_ret
        exact ⟨ret_bool (decide_eq_true HE.out).symm, HB.out⟩
  · have HE := Lib.hid (show ¬ u = v from fun e => hl (by rw [e]))
    have hne : ((u.length : Int) == (v.length : Int)) = false := by rw [beq_eq_false_iff_ne]; omega
    have hne2 : ((u.length : Int) != (v.length : Int)) = true := by rw [bne_iff_ne]; omega
    have hne3 : (u.length == v.length) = false := by rw [beq_eq_false_iff_ne]; exact hl
    have hne4 : (u.length != v.length) = true := by rw [bne_iff_ne]; exact hl
    go_enter Try.func77, Try.ntmps77
    go_wp2
    go_ret
    exact ⟨ret_bool (decide_eq_false HE.out).symm, Below.refl _ _⟩
set_option maxRecDepth 100000 in
set_option maxHeartbeats 400000 in
theorem s_lessP (u v : List Int) (hl : u.length = v.length) (hm : u.length ≤ 1048576) (n : Int) (hn : n ≤ 2305843009213693952) (hu : Bd u n) (hv' : Bd v n) (a b : Value) (w : World) (ha : Sl w a (intVals u)) (hb : Sl w b (intVals v)) :
    Calls Try.prog 123 #[a, b] w (Made w (lessL u v)) := by
  obtain ⟨a, c, rfl, _, ha⟩ := ha.shape
  obtain ⟨b, d, rfl, _, hb⟩ := hb.shape
  rw [intVals_len] at ha hb
  rw [intVals_len, intVals_len, ← hl]
  rw [← hl] at hb
  obtain ⟨i0, hi, hz0, hz1, hz2⟩ := info_parts info_int'
  have HI := Lib.hid (And.intro hi (And.intro hz0 (And.intro hz1 hz2)))
  have HA := Lib.hid ha
  have HB0 := Lib.hid hb
  have HU := Lib.hid hu
  have HV := Lib.hid hv'
  have HL := Lib.hid hl
  clear ha hb hu hv' hl hi hz0 hz1 hz2
  go_enter Try.func123, Try.ntmps123
  go_wp2
  go_loopw [5, 6] (fun o i wr => ∃ k : Nat, k ≤ u.length ∧ i = .int .i64 k ∧ wr.ownsRow w.heap.size 3 1 o k (intVals (lessL (u.take k) (v.take k))) ∧ Below w.heap.size w wr) (fun _ i _ => u.length - (RowKit.intOf i).toNat)
  case atStart => exact ⟨0, Nat.zero_le _, rfl, owns_none (Nat.le_refl _), (Below.refl _ _).alloc (Nat.le_refl _) _⟩
  case round =>
    obtain ⟨k, hk, rfl, how, hbr⟩ := hrel
    have HW := Lib.hid how
    have HB := Lib.hid hbr
    by_cases hlt : k < u.length
    · have hlt' : k < v.length := by have := HL.out; omega
      obtain ⟨b1, o1, rfl, hc1, hlt1, hx1⟩ := HA.out (by omega)
      obtain ⟨b2, o2, rfl, hc2, hlt2, hx2⟩ := HB0.out (by omega)
      have hcell1 := hx1 k _ (intVals_get u k hlt)
      have hcell2 := hx2 k _ (intVals_get v k hlt')
      rw [← hbr.cell (p := ⟨b1, o1 + k, none⟩) hlt1] at hcell1
      rw [← hbr.cell (p := ⟨b2, o2 + k, none⟩) hlt2] at hcell2
      clear hx1 hx2 hbr how
      have i1 : (0 : Int) ≤ (k : Int) := by omega
      have i2 : (k : Int) < (u.length : Int) := by omega
      have g1 := (HU.out k hlt).1
      have g2 := (HU.out k hlt).2
      have g3 := (HV.out k hlt').1
      have g4 := (HV.out k hlt').2
      have C1 := Lib.hid (show k + 1 ≤ maxLen by unfold maxLen; omega)
      have C2 := Lib.hid (show (k + 1) * 8 ≤ 140737488355328 by omega)
      have ZT := Lib.hid (zip_take (f := fun x y => x - y) hlt hlt')
      go_wp2
      go_region_held3 (fun w' => w'.cell? ⟨b1, o1 + k, none⟩ = some (.int .i64 u[k]) ∧ w'.cell? ⟨b2, o2 + k, none⟩ = some (.int .i64 v[k]))
        (first | go_keep | (go_split_ands; exact ⟨(hbel.cell hlt1).trans (by assumption), (hbel.cell hlt2).trans (by assumption)⟩))
        ((refine step_app_int (by rfl) _ _ (by rfl) w.heap.size _ k (lessL (u.take k) (v.take k)) _ (by rfl) ((HW.out.alloc _).drew) wr.heap.size (by rfl) (heap_alloc_new wr _) (by omega) (by have := HB.out.size; simp; omega) ?_; intro v' w1 hown1 hbel))
      rename_i hH
      have HO1 := Lib.hid hown1
      have HB1 := Lib.hid ((((HB.out.alloc HB.out.size _).drew).trans hbel))
      clear hown1 hbel hH
      go_wp2
      refine ⟨⟨k + 1, by omega, by go_num, ?_, HB1.out⟩, by simp [RowKit.intOf]; omega⟩
      have h := HO1.out
      rw [IntWalk.i64_in _ (by omega)] at h
      unfold lessL
      rw [ZT.out]
      exact h
    · obtain rfl : k = u.length := by omega
      clear hbr how
      go_wp2
      go_ret
      refine ⟨⟨_, rfl, ?_⟩, HB.out⟩
      have h := OwnV.of_owns HW.out
      rw [List.take_length, HL.out, List.take_length] at h
      exact h
set_option maxRecDepth 100000 in
set_option maxHeartbeats 800000 in
theorem i_addtP (a b c f x y z : Int) (w : World) (ha : -4000000000000000000 ≤ a ∧ a ≤ 4000000000000000000) (hb : -4000000000000000000 ≤ b ∧ b ≤ 4000000000000000000) (hc : -4000000000000000000 ≤ c ∧ c ≤ 4000000000000000000)
    (hx : -4000000000000000000 ≤ f * x ∧ f * x ≤ 4000000000000000000) (hy : -4000000000000000000 ≤ f * y ∧ f * y ≤ 4000000000000000000) (hz : -4000000000000000000 ≤ f * z ∧ f * z ≤ 4000000000000000000) :
    Calls Try.prog 82 #[.agg #[.int .i64 a, .int .i64 b, .int .i64 c], .int .i64 f, .agg #[.int .i64 x, .int .i64 y, .int .i64 z]] w (Arr w (a + f * x) (b + f * y) (c + f * z)) := by
  obtain ⟨a1, a2⟩ := ha
  obtain ⟨b1, b2⟩ := hb
  obtain ⟨c1, c2⟩ := hc
  obtain ⟨x1, x2⟩ := hx
  obtain ⟨y1, y2⟩ := hy
  obtain ⟨z1, z2⟩ := hz
  go_enter Try.func82, Try.ntmps82
  go_wp2
  refine wp_loop_rounds 4 ?_
  rw [rounds_succ]
  go_wp2
  go_region
  go_wp2
  rw [rounds_succ]
  go_wp2
  go_region
  go_wp2
  rw [rounds_succ]
  go_wp2
  go_region
  go_wp2
  rw [rounds_succ]
  go_wp2

  refine bodyPost_ret (v := .agg #[.int .i64 (a + f * x), .int .i64 (b + f * y), .int .i64 (c + f * z)]) ?_ rfl ⟨rfl, ?_⟩
  · simp [results, Try.results82, go_sem]
  · exact (((((((Below.refl _ _).alloc (Nat.le_refl _) _).alloc (by simp) _).alloc (by simp; omega) _).drew).drew).drew)
theorem idx3P (x y z : Value) : (∀ w, (Instr.index 57 (.agg #[x, y, z]) (.int .i64 0)).run Try.prog w = .ok x w) ∧ (∀ w, (Instr.index 57 (.agg #[x, y, z]) (.int .i64 1)).run Try.prog w = .ok y w) ∧ (∀ w, (Instr.index 57 (.agg #[x, y, z]) (.int .i64 2)).run Try.prog w = .ok z w) :=
  ⟨fun _ => by kernel_rfl, fun _ => by kernel_rfl, fun _ => by kernel_rfl⟩
/-- A row that was made just now is put into place j of a block without spare cells. -/
theorem OwR.putNew {T e : TypeId} {lo : Nat} {w w2 : World} {zss : List (List Int)} {b n : Nat} (hn : n = zss.length) (h : OwR T e lo w.heap.size w (.slice (some ⟨b, 0, none⟩) n n) zss) (hb : Below w.heap.size w w2) (hlo : lo ≤ w.heap.size) (j : Nat) (hj : j < zss.length) {u : Value} {ys : List Int}
    (hu : OwnV e w.heap.size w2.heap.size w2 u (intVals ys)) : OwR T e lo (w2.setCell ⟨b, j, none⟩ u).heap.size (w2.setCell ⟨b, j, none⟩ u) (.slice (some ⟨b, 0, none⟩) n n) (zss.set j ys) := by
  subst hn
  rw [show (w2.setCell ⟨b, j, none⟩ u).heap.size = w2.heap.size by simp [World.setCell]]
  have h2 := (h.below hb).mono (Nat.le_refl lo) hb.size
  refine h2.put j hj (hu.mono hlo (Nat.le_refl _)) ?_
  intro x hx
  have hxp := (hu.place hx).1
  obtain ⟨b', u', e1, hlb, hbl, hbs, _⟩ := h.at j hj rfl
  simp only [Option.some.injEq, Addr.mk.injEq] at e1
  obtain ⟨rfl, _, _⟩ := e1
  refine ⟨by omega, fun i r hr hrx => ?_⟩
  rw [hb.cell (p := ⟨b, i, none⟩) hbs] at hr
  obtain ⟨vs, k1, k2, k3, k4, k5⟩ := h
  rcases k2 with ⟨k6, _⟩ | ⟨g, cap, cur, e2, k7, k8, k9, k10, k11, k12, k13⟩
  · rw [k6] at k1; simp at k1; omega
  · simp only [Value.slice.injEq, Option.some.injEq, Addr.mk.injEq] at e2
    obtain ⟨⟨rfl, _, _⟩, e3, rfl⟩ := e2
    rw [cell_of_row _ _ _ _ _ _ k9] at hr
    have hcv : cur.toList = vs := by rw [← k13]; exact (List.take_of_length_le (by rw [Array.length_toList, k12]; omega)).symm
    have hv : vs[i]? = some r := by rw [← hcv, Array.getElem?_toList]; exact hr
    have hi := lt_of_get hv
    have hp := (k3 i r _ hv (List.getElem?_eq_getElem (by omega))).place hrx
    omega
def cmpJ (x y : Int) : Int := if x = y then 0 else if x < y then -1 else 1
theorem cmpJ_eq {x y : Int} (h : x = y) : cmpJ x y = 0 := if_pos h
theorem cmpJ_lt {x y : Int} (h : x < y) : cmpJ x y = -1 := by unfold cmpJ; rw [if_neg (by omega), if_pos h]
theorem cmpJ_gt {x y : Int} (h : y < x) : cmpJ x y = 1 := by unfold cmpJ; rw [if_neg (by omega), if_neg (by omega)]
set_option maxRecDepth 100000 in
theorem i_ccmpP (x y : Int) (w : World) : Calls Try.prog 105 #[.int .i64 x, .int .i64 y] w fun e w' => e = .returned (.int .i64 (cmpJ x y)) ∧ w = w' := by
  by_cases h1 : x < y
  · have E := Lib.hid (cmpJ_lt h1)
    go_enter Try.func105, Try.ntmps105
    go_wp2
    go_ret
    exact ⟨ret_int E.out.symm, rfl⟩
  · by_cases h2 : y < x
    · have E := Lib.hid (cmpJ_gt h2)
      go_enter Try.func105, Try.ntmps105
      go_wp2
      go_ret
      exact ⟨ret_int E.out.symm, rfl⟩
    · have E := Lib.hid (cmpJ_eq (x := x) (y := y) (by omega))
      go_enter Try.func105, Try.ntmps105
      go_wp2
      go_ret
      exact ⟨ret_int E.out.symm, rfl⟩
end Go.Proofs.Ytckpifcdlmfabaa
/- append at whatever element type: the slice that is appended may be empty; the answer has a slice's form. -/
namespace Go.Proofs.Ytckpifcdlmfabaa
open Go.RowKit Go.Lib

theorem owns_slice {w : World} {base : Nat} {e : TypeId} {k : Nat} {v : Value} {n : Nat} {xs : List Value} (h : w.ownsRow base e k v n xs) : ∃ (a : Option Addr) (c : Nat), v = .slice a n c ∧ n ≤ c ∧ c ≤ maxLen := by
  rcases h.2 with ⟨rfl, h0⟩ | ⟨g, cap, cur, rfl, _, _, h1, h2, _⟩
  · exact ⟨none, 0, by rw [h0], by omega, by unfold maxLen; omega⟩
  · exact ⟨_, cap, rfl, h1, h2⟩
/-- append(v, news...) at an operation: news may be none. -/
theorem wp_appG {o : Oper} {a : Act} {w : World} {K : Act → World → Prop} {Q : Exit → Act → World → Prop} (s x : Operand) (t : TypeId)
    (ho : o.op = .call { callee := .builtin .append, args := #[s, x], argTypes := #[t, t] })
    (base : Nat) (e : TypeId) (i : TypeInfo) (z : Value) (size bytes : Nat) (ht : Try.prog.underlying t = some (.slice e)) (hi : Try.prog.info? e = some i) (hz : i.zero = some z)
    (hsize : i.size = size) (hby : i.bytes = bytes) (hzs : z.cells.size = size) (hsz : 0 < size)
    (v : Value) (n : Nat) (xs : List Value) (hs : a.eval s = v) (hown : w.ownsRow base e size v n xs)
    (ad : Option Addr) (m c : Nat) (news : List Value) (hx : a.eval x = .slice ad m c) (hl : news.length = m * size) (hnews : 0 < m → ∃ p, ad = some p ∧ ∀ j u, news[j]? = some u → w.cell? (p.add j) = some u) (h1 : ∀ u ∈ news, u.oneCell' = true)
    (h63 : n + m ≤ 1099511627776) (hbytes : bytes ≤ 64) (hbase : base ≤ w.heap.size)
    (h : ∀ a' c' w', w'.ownsRow base e size (.slice a' (n + m) c') (n + m) (xs ++ news) → w.grownBy w' v.ownBlock → (∀ b, (Value.slice a' (n + m) c').ownBlock = some b → v.ownBlock = some b ∨ w.heap.size ≤ b) → K (a.put o.dst (.slice a' (n + m) c')) w') : o.wp Try.prog a w K Q := by
  by_cases h0 : 0 < m
  · obtain ⟨p, rfl, hp⟩ := hnews h0
    refine wp_append_lies w s x t ho base e i z size bytes ht hi hz hsize hby hzs hsz v n xs hs hown p m c news hx hl hp h1 h0 (by unfold maxLen; omega) ?_ hbase w.heap.size rfl ?_
    · exact Nat.le_trans (Nat.mul_le_mul h63 hbytes) (by omega)
    · intro g cap w' k1 k2 k3 _
      refine h _ _ w' k1 k2 fun b hb => ?_
      have hgb : g = b := by simpa [Value.ownBlock] using hb
      rcases k3 with k3 | k3
      · exact .inl (by rw [k3, hgb])
      · exact .inr (by omega)
  · obtain rfl : m = 0 := by omega
    obtain rfl : news = [] := List.eq_nil_of_length_eq_zero (by rw [hl, Nat.zero_mul])
    obtain ⟨a', c', rfl, _⟩ := owns_slice hown
    have hr := runNone (w := w) base t o.type e i size ht hi _ n xs hown ad c
    unfold Oper.wp execOp
    simp only [ho, resolve, invoke, builtin, Sem.run_bind, Sem.run_pure, Result.andThen_ok, List.map_toArray, List.map_cons, List.map_nil, hs, hx, hr]
    exact h a' c' w (by rw [List.append_nil]; exact hown) ⟨rfl, rfl, rfl, Nat.le_refl _, fun _ _ _ => rfl⟩ fun b hb => .inl hb
theorem list_appG {ops : Array Oper} {rest : List Oper} {o : Oper} {a : Act} {w : World} {Q : Exit → Act → World → Prop} (hgd : o.guard = none) (s x : Operand) (t : TypeId)
    (ho : o.op = .call { callee := .builtin .append, args := #[s, x], argTypes := #[t, t] })
    (base : Nat) (e : TypeId) (i : TypeInfo) (z : Value) (size bytes : Nat) (ht : Try.prog.underlying t = some (.slice e)) (hi : Try.prog.info? e = some i) (hz : i.zero = some z)
    (hsize : i.size = size) (hby : i.bytes = bytes) (hzs : z.cells.size = size) (hsz : 0 < size)
    (v : Value) (n : Nat) (xs : List Value) (hs : a.eval s = v) (hown : w.ownsRow base e size v n xs)
    (ad : Option Addr) (m c : Nat) (news : List Value) (hx : a.eval x = .slice ad m c) (hl : news.length = m * size) (hnews : 0 < m → ∃ p, ad = some p ∧ ∀ j u, news[j]? = some u → w.cell? (p.add j) = some u) (h1 : ∀ u ∈ news, u.oneCell' = true)
    (h63 : n + m ≤ 1099511627776) (hbytes : bytes ≤ 64) (hbase : base ≤ w.heap.size)
    (h : ∀ a' c' w', w'.ownsRow base e size (.slice a' (n + m) c') (n + m) (xs ++ news) → w.grownBy w' v.ownBlock → (∀ b, (Value.slice a' (n + m) c').ownBlock = some b → v.ownBlock = some b ∨ w.heap.size ≤ b) → wpList Try.prog ops Q rest (a.put o.dst (.slice a' (n + m) c')) w') : wpList Try.prog ops Q (o :: rest) a w :=
  wpList_plain hgd fun _ hK => wp_appG s x t ho base e i z size bytes ht hi hz hsize hby hzs hsz v n xs hs hown ad m c news hx hl hnews h1 h63 hbytes hbase fun a' c' w' k1 k2 k3 => hK _ _ (h a' c' w' k1 k2 k3)
/-- What reads as a list lies where append looks for it. -/
theorem Sl.news {w : World} {ad : Option Addr} {m c : Nat} {ys : List Value} (h : Sl w (.slice ad m c) ys) : ys.length = m * 1 ∧ (0 < m → ∃ p, ad = some p ∧ ∀ j u, ys[j]? = some u → w.cell? (p.add j) = some u) := by
  obtain ⟨a, c', e, _, ho⟩ := h.shape
  simp only [Value.slice.injEq] at e
  obtain ⟨rfl, rfl, rfl⟩ := e
  refine ⟨by omega, fun h0 => ?_⟩
  obtain ⟨b, off, e, _, _, hx⟩ := ho h0
  refine ⟨⟨b, off, none⟩, e, fun j u hu => ?_⟩
  have hadd : (⟨b, off, none⟩ : Addr).add j = ⟨b, off + j, none⟩ := by
    unfold Addr.add
    split
    · simp_all
    · rfl
  rw [hadd]
  exact hx j u hu
/-- What was appended to lies in its block alone; the others are as they were. -/
theorem OwnV.grown' {e : TypeId} {lo hi : Nat} {w w' : World} {v : Value} {xs : List Value} {r : Option Nat} (h : OwnV e lo hi w v xs) (hg : w.grownBy w' r) (hne : ∀ b, v.ownBlock = some b → r ≠ some b) : OwnV e lo hi w' v xs := by
  rcases h with h | ⟨g, cap, cur, rfl, h1, h2, hb, hr⟩
  · exact .inl h
  · exact .inr ⟨g, cap, cur, rfl, h1, h2, by rw [hg.block g (lt_of_heap hb) (fun e => hne g rfl e.symm)]; exact hb, hr⟩
end Go.Proofs.Ytckpifcdlmfabaa
/- Slices of elements of k cells each that the call made itself; whatever the element, its cells hold no address. -/
namespace Go.Proofs.Ytckpifcdlmfabaa
open Go.RowKit Go.Lib

section
variable {α : Type} (enc : α → List Value) (k : Nat)
theorem flatE_len (hk : ∀ x, (enc x).length = k) : ∀ l : List α, (l.flatMap enc).length = l.length * k
  | [] => by simp
  | x :: l => by rw [List.flatMap_cons, List.length_append, hk, flatE_len hk l, List.length_cons, Nat.succ_mul]; omega
theorem flatE_get (hk : ∀ x, (enc x).length = k) : ∀ (l : List α) (j c : Nat) (h : j < l.length) (_ : c < k), (l.flatMap enc)[j * k + c]? = (enc l[j])[c]?
  | [], j, c, h, _ => by simp at h
  | x :: l, 0, c, h, hc => by rw [List.flatMap_cons, Nat.zero_mul, Nat.zero_add, List.getElem?_append_left (by rw [hk]; exact hc)]; rfl
  | x :: l, j + 1, c, h, hc => by
    rw [List.flatMap_cons, List.getElem?_append_right (by rw [hk, Nat.succ_mul]; omega), hk, show (j + 1) * k + c - k = j * k + c by rw [Nat.succ_mul]; omega, flatE_get hk l j c (by simpa using h) hc]; rfl
theorem flatE_take (hk : ∀ x, (enc x).length = k) : ∀ (l : List α) (n : Nat), (l.flatMap enc).take (n * k) = (l.take n).flatMap enc
  | [], n => by simp
  | x :: l, 0 => by simp
  | x :: l, n + 1 => by
    rw [List.flatMap_cons, List.take_succ_cons, List.flatMap_cons, List.take_append, hk, show (n + 1) * k - k = n * k by rw [Nat.succ_mul]; omega, flatE_take hk l n, List.take_of_length_le (by rw [hk, Nat.succ_mul]; omega)]
theorem flatE_drop (hk : ∀ x, (enc x).length = k) : ∀ (l : List α) (n : Nat), (l.flatMap enc).drop (n * k) = (l.drop n).flatMap enc
  | [], n => by simp
  | x :: l, 0 => by simp
  | x :: l, n + 1 => by
    rw [List.flatMap_cons, List.drop_succ_cons, List.drop_append, hk, show (n + 1) * k - k = n * k by rw [Nat.succ_mul]; omega, flatE_drop hk l n, List.drop_of_length_le (by rw [hk, Nat.succ_mul]; omega), List.nil_append]

/-- The elements l lie at v, in a block of the call's own between lo and hi. -/
def OwE (T : TypeId) (lo hi : Nat) (w : World) (v : Value) (l : List α) : Prop := w.ownsRow lo T k v l.length (l.flatMap enc) ∧ ∀ b, v.ownBlock = some b → b < hi
variable {enc : α → List Value} {k : Nat} {T : TypeId} {lo hi : Nat} {w w' : World} {v : Value} {l : List α}
theorem ownsK_kept {a b n : Nat} {xs : List Value} (h : w.ownsRow lo T k v n xs) (hv : ∀ b, v.ownBlock = some b → b < hi) (hk : Kept a b w w') (hd : hi ≤ a ∨ b ≤ lo) : w'.ownsRow lo T k v n xs := by
  obtain ⟨h1, h2⟩ := h
  refine ⟨h1, ?_⟩
  rcases h2 with h2 | ⟨g, cap, cur, rfl, hg, hh, hr⟩
  · exact .inl h2
  · have := hv g rfl
    exact .inr ⟨g, cap, cur, rfl, hg, by rw [hk.block g (lt_of_heap hh) (by omega)]; exact hh, hr⟩
theorem OwE.kept {a b : Nat} (h : OwE enc k T lo hi w v l) (hk : Kept a b w w') (hd : hi ≤ a ∨ b ≤ lo) : OwE enc k T lo hi w' v l := ⟨ownsK_kept h.1 h.2 hk hd, h.2⟩
theorem OwE.below (h : OwE enc k T lo hi w v l) (hb : Below w.heap.size w w') : OwE enc k T lo hi w' v l :=
  h.kept (Kept.of_below (lo := hi) (hi := hi) hb) (.inl (Nat.le_refl _))
theorem OwE.mono {lo' hi' : Nat} (h : OwE enc k T lo hi w v l) (h1 : lo' ≤ lo) (h2 : hi ≤ hi') : OwE enc k T lo' hi' w v l :=
  ⟨Go.Joins.ownsRow_le h.1 h1, fun b hb => Nat.lt_of_lt_of_le (h.2 b hb) h2⟩
theorem OwE.grown {r : Option Nat} (h : OwE enc k T lo hi w v l) (hg : w.grownBy w' r) (hne : ∀ b, v.ownBlock = some b → r ≠ some b) : OwE enc k T lo hi w' v l := by
  obtain ⟨⟨h1, h2⟩, h3⟩ := h
  refine ⟨⟨h1, ?_⟩, h3⟩
  rcases h2 with h2 | ⟨g, cap, cur, rfl, hg', hh, hr⟩
  · exact .inl h2
  · exact .inr ⟨g, cap, cur, rfl, hg', by rw [hg.block g (lt_of_heap hh) (fun e => hne g rfl e.symm)]; exact hh, hr⟩
theorem OwE.nil : OwE enc k T lo hi w (.slice none 0 0) ([] : List α) := ⟨World.ownsRow_nil _ _ _ _, fun b hb => by cases hb⟩
theorem OwE.shape (h : OwE enc k T lo hi w v l) : ∃ (a : Option Addr) (c : Nat), v = .slice a l.length c ∧ l.length ≤ c ∧ c ≤ maxLen := owns_slice h.1
/-- Element j: its cells. -/
theorem OwE.at (hk : ∀ x, (enc x).length = k) (h : OwE enc k T lo hi w v l) (j : Nat) (hj : j < l.length) (k0 : 0 < k) {a : Option Addr} {n c : Nat} (hv : v = .slice a n c) :
    ∃ b : Nat, a = some ⟨b, 0, none⟩ ∧ n = l.length ∧ lo ≤ b ∧ b < hi ∧ b < w.heap.size ∧ l.length ≤ c ∧ (∀ i, i < k → w.cell? ⟨b, j * k + i, none⟩ = (enc l[j])[i]?) ∧ ∀ i, w.frozen? ⟨b, i, none⟩ = false := by
  obtain ⟨k2, k3⟩ := h
  obtain ⟨g, cap, e1⟩ := Go.Joins.ownsRow_form k2 (by omega)
  subst e1
  simp only [Value.slice.injEq] at hv
  obtain ⟨rfl, rfl, rfl⟩ := hv
  have hlt := k2.lt g rfl
  have hc : l.length ≤ cap := by
    rcases k2.2 with ⟨k7, _⟩ | ⟨g', cap', cur, e2, _, _, k9, _⟩
    · cases k7
    · simp only [Value.slice.injEq] at e2
      rw [e2.2.2]; exact k9
  refine ⟨g, rfl, rfl, hlt.1, k3 g rfl, hlt.2, hc, fun i hi => ?_, fun i => k2.frozenAt i⟩
  have hb : j * k + i < l.length * k := by
    have := Nat.mul_le_mul_right k (show j + 1 ≤ l.length from hj)
    rw [Nat.succ_mul] at this; omega
  rw [k2.cellAt _ hb, flatE_get enc k hk l j i hj hi]
/-- The first m elements. -/
theorem OwE.cut (hk : ∀ x, (enc x).length = k) {g n c m : Nat} (h : OwE enc k T lo hi w (.slice (some ⟨g, 0, none⟩) n c) l) (hm : m ≤ l.length) : OwE enc k T lo hi w (.slice (some ⟨g, 0, none⟩) m c) (l.take m) := by
  obtain ⟨h1, h2⟩ := h
  obtain ⟨g', cap, e1, _⟩ := owns_slice h1
  simp only [Value.slice.injEq] at e1
  obtain ⟨_, rfl, _⟩ := e1
  have h3 := ownsCut h1 hm
  rw [flatE_take enc k hk] at h3
  refine ⟨by rw [List.length_take, Nat.min_eq_left hm]; exact h3, fun b hb => h2 b hb⟩
end

/-- The cells of a point. -/
def encP (p : P2) : List Value := [.int .i64 p.1, .int .i64 p.2, .int .i64 0]
theorem encP_len (p : P2) : (encP p).length = 3 := rfl
theorem encP_one (p : P2) : ∀ v ∈ encP p, v.oneCell' = true := by
  intro v hv
  simp only [encP, List.mem_cons, List.not_mem_nil, or_false] at hv
  rcases hv with rfl | rfl | rfl <;> rfl
theorem flatP_one (l : List P2) : ∀ v ∈ l.flatMap encP, v.oneCell' = true := by
  intro v hv
  obtain ⟨p, _, h⟩ := List.mem_flatMap.1 hv
  exact encP_one p v h
theorem info_nums : (Try.prog.info? 57).map (fun i => (i.zero, i.size, i.bytes)) = some (some (.agg #[.int .i64 0, .int .i64 0, .int .i64 0]), 3, 24) := by kernel_rfl
abbrev OwP (lo hi : Nat) (w : World) (v : Value) (l : List P2) : Prop := OwE encP 3 57 lo hi w v l
theorem OwE.at3 {lo hi : Nat} {w : World} {v : Value} {l : List P2} (h : OwP lo hi w v l) (j : Nat) (hj : j < l.length) {a : Option Addr} {n c : Nat} (hv : v = .slice a n c) :
    ∃ b : Nat, a = some ⟨b, 0, none⟩ ∧ n = l.length ∧ lo ≤ b ∧ b < hi ∧ b < w.heap.size ∧ l.length ≤ c ∧ (w.cell? ⟨b, j * 3, none⟩ = some (.int .i64 l[j].1) ∧ w.cell? ⟨b, j * 3 + 1, none⟩ = some (.int .i64 l[j].2) ∧ w.cell? ⟨b, j * 3 + 2, none⟩ = some (.int .i64 0)) ∧ ∀ i, w.frozen? ⟨b, i, none⟩ = false := by
  obtain ⟨b, h1, h2, h3, h4, h5, h6, h7, h8⟩ := OwE.at encP_len h j hj (by omega) hv
  exact ⟨b, h1, h2, h3, h4, h5, h6, ⟨h7 0 (by omega), h7 1 (by omega), h7 2 (by omega)⟩, h8⟩
theorem flatP_put : ∀ (l : List P2) (j : Nat) (p : P2), (((l.flatMap encP).set (j * 3) (.int .i64 p.1)).set (j * 3 + 1) (.int .i64 p.2)).set (j * 3 + 2) (.int .i64 0) = (l.set j p).flatMap encP
  | [], j, p => by simp
  | x :: l, 0, p => by simp [encP]
  | x :: l, j + 1, p => by
    have ih := flatP_put l j p
    rw [show (j + 1) * 3 = j * 3 + 1 + 1 + 1 from by omega]
    simp only [List.flatMap_cons, encP, List.cons_append, List.nil_append, List.set_cons_succ, show j * 3 + 1 + 1 + 1 + 1 = j * 3 + 1 + 1 + 1 + 1 from rfl, show j * 3 + 1 + 1 + 1 + 2 = j * 3 + 2 + 1 + 1 + 1 from rfl, ← ih]
/-- A point is stored at place j. -/
theorem OwE.put3 {lo hi : Nat} {w : World} {b n c : Nat} {l : List P2} (h : OwP lo hi w (.slice (some ⟨b, 0, none⟩) n c) l) (j : Nat) (hj : j < l.length) (p : P2) :
    OwP lo hi (((w.setCell ⟨b, j * 3, none⟩ (.int .i64 p.1)).setCell ⟨b, j * 3 + 1, none⟩ (.int .i64 p.2)).setCell ⟨b, j * 3 + 2, none⟩ (.int .i64 0)) (.slice (some ⟨b, 0, none⟩) n c) (l.set j p) := by
  obtain ⟨k2, k3⟩ := h
  obtain ⟨g, cap, e1⟩ := Go.Joins.ownsRow_form k2 (by omega)
  simp only [Value.slice.injEq, Option.some.injEq, Addr.mk.injEq] at e1
  obtain ⟨⟨rfl, _, _⟩, rfl, rfl⟩ := e1
  have hst := ((((k2.stored (j * 3) (.int .i64 p.1)).1).stored (j * 3 + 1) (.int .i64 p.2)).1.stored (j * 3 + 2) (.int .i64 0)).1
  rw [flatP_put l j p] at hst
  exact ⟨by rw [List.length_set]; exact hst, k3⟩
theorem made_zerosP (n : Nat) : (madeCells #[.int .i64 0, .int .i64 0, .int .i64 0] (n * 3)).toList = (List.replicate n ((0, 0) : P2)).flatMap encP := by
  refine List.ext_getElem? fun i => ?_
  have hl := flatE_len encP 3 encP_len (List.replicate n ((0, 0) : P2))
  rw [List.length_replicate] at hl
  by_cases hi : i < n * 3
  · have e1 : (madeCells #[.int .i64 0, .int .i64 0, .int .i64 0] (n * 3)).toList[i]? = some ((#[Value.int .i64 0, .int .i64 0, .int .i64 0] : Array Value)[i % 3]!) := by
      unfold madeCells
      rw [Array.getElem?_toList, Array.getElem?_map]
      simp [hi]
    have hj : i / 3 < (List.replicate n ((0, 0) : P2)).length := by simp; omega
    have g := fun c hc => flatE_get encP 3 encP_len (List.replicate n ((0, 0) : P2)) (i / 3) c hj hc
    simp only [List.getElem_replicate] at g
    rw [e1]
    have h3 : i % 3 < 3 := Nat.mod_lt _ (by omega)
    rcases (by omega : i % 3 = 0 ∨ i % 3 = 1 ∨ i % 3 = 2) with h | h | h <;> rw [h]
    · rw [show i = i / 3 * 3 + 0 by omega, g 0 (by omega)]; rfl
    · rw [show i = i / 3 * 3 + 1 by omega, g 1 (by omega)]; rfl
    · rw [show i = i / 3 * 3 + 2 by omega, g 2 (by omega)]; rfl
  · rw [List.getElem?_eq_none (by rw [Array.length_toList, size_madeCells]; omega), List.getElem?_eq_none (by rw [hl]; omega)]
theorem OwE.zeros3 {base lo hi : Nat} {w : World} {b n : Nat} (h : w.ownsRow base 57 3 (.slice (some ⟨b, 0, none⟩) n n) n (madeCells #[.int .i64 0, .int .i64 0, .int .i64 0] (n * 3)).toList) (hlo : lo ≤ base) (hhi : b < hi) : OwP lo hi w (.slice (some ⟨b, 0, none⟩) n n) (List.replicate n (0, 0)) := by
  rw [made_zerosP] at h
  refine ⟨?_, fun x hx => (show b = x by simpa [Value.ownBlock] using hx) ▸ hhi⟩
  rw [List.length_replicate]
  exact Go.Joins.ownsRow_le h hlo
end Go.Proofs.Ytckpifcdlmfabaa
