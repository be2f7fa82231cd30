/- Helpers of the polygons. -/
import Derived.Test.YtjijgagdaolkcaaVecK
import Derived.Test.YtjijgagdaolkcaaMaj
import Derived.Test.YtjijgagdaolkcaaRowApp
import Derived.Test.YtjijgagdaolkcaaMab
import Derived.Test.YtjijgagdaolkcaaMeet
import Derived.Test.YtjijgagdaolkcaaOrd
import Derived.Deep.RegionHeld3
import Derived.Deep.Cut
import Derived.BigQuiet
import Derived.Lib.SmallJoins
import Derived.Shelf.Abstract
import Derived.Test.YtjijgagdaolkcaaMac
import Derived.Deep.Slices
namespace Go.Proofs.Ytjijgagdaolkcaa
open Go Go.RowKit Go.Lib

theorem ownsCut {w : World} {base g n m cap : Nat} {T : TypeId} {k : Nat} {xs : List Value} (h : w.ownsRow base T k (.slice (some ⟨g, 0, none⟩) n cap) n xs) (hm : m ≤ n) : w.ownsRow base T k (.slice (some ⟨g, 0, none⟩) m cap) m (xs.take (m * k)) := by
  obtain ⟨h1, h2⟩ := h
  have hk : m * k ≤ n * k := Nat.mul_le_mul_right k hm
  refine ⟨by rw [List.length_take, h1]; omega, ?_⟩
  rcases h2 with ⟨h2, _⟩ | ⟨g', cap', cur, e, hg, hh, hn, hc, hs, ht⟩
  · cases h2
  · simp only [Value.slice.injEq, Option.some.injEq, Addr.mk.injEq] at e
    obtain ⟨⟨rfl, _, _⟩, _, rfl⟩ := e
    refine .inr ⟨g, cap, cur, rfl, hg, hh, by omega, hc, hs, ?_⟩
    rw [← ht, List.take_take, Nat.min_eq_left hk]
theorem getIns {α : Type} {l : List α} {x : α} {a i : Nat} (ha : a ≤ l.length) : (l.take a ++ x :: l.drop a)[i]? = if i < a then l[i]? else if i = a then some x else l[i - 1]? := by
  have hl : (l.take a).length = a := by rw [List.length_take]; omega
  by_cases h1 : i < a
  · rw [if_pos h1, List.getElem?_append_left (by omega), List.getElem?_take, if_pos h1]
  · rw [if_neg h1, List.getElem?_append_right (by omega), hl]
    by_cases h2 : i = a
    · rw [if_pos h2, h2, Nat.sub_self]; rfl
    · rw [if_neg h2, show i - a = (i - 1 - a) + 1 by omega, List.getElem?_cons_succ, List.getElem?_drop, show a + (i - 1 - a) = i - 1 by omega]
theorem grownTrans {w w1 w2 : World} {r r2 : Option Nat} (h : w.grownBy w1 r) (h2 : w1.grownBy w2 r2) (hr : ∀ b, r2 = some b → r = some b ∨ w.heap.size ≤ b) : w.grownBy w2 r :=
  ⟨h2.os.trans h.os, h2.tape.trans h.tape, h2.output.trans h.output, Nat.le_trans h.size h2.size, fun k hk hne => (h2.block k (Nat.lt_of_lt_of_le hk h.size) (fun e => by
    rcases hr k e.symm with h1 | h1
    · exact hne h1.symm
    · omega)).trans (h.block k hk hne)⟩
/-- append(points, none...): the points themselves. -/
theorem runNone {w : World} (base : Nat) (t ty e : TypeId) (i : TypeInfo) (size : Nat) (ht : Try.prog.underlying t = some (.slice e)) (hi : Try.prog.info? e = some i)
    (v : Value) (n : Nat) (xs : List Value) (hown : w.ownsRow base e size v n xs) (ad : Option Addr) (c : Nat) :
    (Builtin.append_ #[t, t] ty #[v, .slice ad 0 c]).run Try.prog w = .ok v w := by
  rcases hown.2 with ⟨rfl, rfl⟩ | ⟨g, cap, cur, rfl, _, _, hnc, _⟩
  · cases ad <;> simp [Builtin.append_, run_underlying ht, sizeOf, typeInfo, hi, Builtin.lenOf, Builtin.firstCells, loadCells, loadCellsFrom]
  · cases ad <;> simp [Builtin.append_, run_underlying ht, sizeOf, typeInfo, hi, Builtin.lenOf, Builtin.firstCells, hnc, storeCells, loadCells, loadCellsFrom]
theorem takeAllEq {α : Type} {u v : List α} {k : Nat} (hl : u.length = v.length) (hk : k = u.length) (h : u.take k = v.take k) : u = v := by
  subst hk
  rw [List.take_length, hl, List.take_length] at h
  exact h
theorem takeEqStep {α : Type} {u v : List α} {k : Nat} (h1 : k < u.length) (h2 : k < v.length) (h : u.take k = v.take k) (he : u[k] = v[k]) : u.take (k + 1) = v.take (k + 1) := by
  rw [List.take_succ_eq_append_getElem h1, List.take_succ_eq_append_getElem h2, h, he]
theorem getNe {α : Type} {u v : List α} {k : Nat} (h1 : k < u.length) (h2 : k < v.length) (he : ¬ u[k] = v[k]) : ¬ u = v := by
  intro e; subst e; exact he rfl
set_option maxRecDepth 100000 in
set_option maxHeartbeats 800000 in
theorem s_sameP (u v : List Int) (a b : Value) (w : World) (ha : Sl w a (intVals u)) (hb : Sl w b (intVals v)) :
    Calls Try.prog 119 #[a, b] w (Quiet w (.bool (decide (u = v)))) := by
  obtain ⟨a, c, rfl, hm, ha⟩ := ha.shape
  obtain ⟨b, d, rfl, _, hb⟩ := hb.shape
  rw [intVals_len] at ha hb hm
  rw [intVals_len, intVals_len]
  unfold maxLen at hm
  have HA := Lib.hid ha
  have HB0 := Lib.hid hb
  clear ha hb
  by_cases hl : u.length = v.length
  · have HL := Lib.hid hl
    rw [← hl] at HB0 ⊢
    clear hl
    go_enter Try.func119, Try.ntmps119
    go_wp2
    go_loopw [5] (fun i wr => ∃ k : Nat, k ≤ u.length ∧ i = .int .i64 k ∧ u.take k = v.take k ∧ Below w.heap.size w wr) (fun i _ => u.length - (RowKit.intOf i).toNat)
    case atStart => exact ⟨0, Nat.zero_le _, rfl, rfl, Below.refl _ _⟩
    case round =>
      obtain ⟨k, hk, rfl, ht, hbr⟩ := hrel
      have HB := Lib.hid hbr
      have HT := Lib.hid ht
      clear ht
      by_cases hlt : k < u.length
      · have hlt' : k < v.length := by have := HL.out; omega
        obtain ⟨b1, o1, rfl, hc1, hlt1, hx1⟩ := HA.out (by omega)
        obtain ⟨b2, o2, rfl, hc2, hlt2, hx2⟩ := HB0.out (by omega)
        have hcell1 := hx1 k _ (intVals_get u k hlt)
        have hcell2 := hx2 k _ (intVals_get v k hlt')
        rw [← hbr.cell (p := ⟨b1, o1 + k, none⟩) hlt1] at hcell1
        rw [← hbr.cell (p := ⟨b2, o2 + k, none⟩) hlt2] at hcell2
        clear hx1 hx2 hbr
        have i1 : (0 : Int) ≤ (k : Int) := by omega
        have i2 : (k : Int) < (u.length : Int) := by omega
        by_cases he : u[k] = v[k]
        · have HE := Lib.hid (takeEqStep hlt hlt' HT.out he)
          rw [← he] at hcell2
          clear he
          go_wp2
          go_quiet (fail)
          go_wp2
          exact ⟨⟨k + 1, by omega, by go_num, HE.out, below_drewN' HB.out _⟩, by simp [RowKit.intOf]; omega⟩
        · have HE := Lib.hid (getNe hlt hlt' he)
          have hne : (u[k] == v[k]) = false := by rw [beq_eq_false_iff_ne]; exact he
          have hne2 : (u[k] != v[k]) = true := by rw [bne_iff_ne]; exact he
          go_wp2
          go_quiet (fail)
          go_wp2
          go_ret
          exact ⟨ret_bool (decide_eq_false HE.out).symm, below_drewN' HB.out _⟩
      · obtain rfl : k = u.length := by omega
        have HE := Lib.hid (takeAllEq HL.out rfl HT.out)
        clear hbr
        go_wp2
        go_ret
        exact ⟨ret_bool (decide_eq_true HE.out).symm, HB.out⟩
  · have HE := Lib.hid (show ¬ u = v from fun e => hl (by rw [e]))
    have hne : ((u.length : Int) == (v.length : Int)) = false := by rw [beq_eq_false_iff_ne]; omega
    have hne2 : ((u.length : Int) != (v.length : Int)) = true := by rw [bne_iff_ne]; omega
    have hne3 : (u.length == v.length) = false := by rw [beq_eq_false_iff_ne]; exact hl
    have hne4 : (u.length != v.length) = true := by rw [bne_iff_ne]; exact hl
    go_enter Try.func119, Try.ntmps119
    go_wp2
    go_ret
    exact ⟨ret_bool (decide_eq_false HE.out).symm, Below.refl _ _⟩
set_option maxRecDepth 100000 in
set_option maxHeartbeats 400000 in
theorem s_lessP (u v : List Int) (hl : u.length = v.length) (hm : u.length ≤ 1048576) (n : Int) (hn : n ≤ 2305843009213693952) (hu : Bd u n) (hv' : Bd v n) (a b : Value) (w : World) (ha : Sl w a (intVals u)) (hb : Sl w b (intVals v)) :
    Calls Try.prog 75 #[a, b] w (Made w (lessL u v)) := by
  obtain ⟨a, c, rfl, _, ha⟩ := ha.shape
  obtain ⟨b, d, rfl, _, hb⟩ := hb.shape
  rw [intVals_len] at ha hb
  rw [intVals_len, intVals_len, ← hl]
  rw [← hl] at hb
  obtain ⟨i0, hi, hz0, hz1, hz2⟩ := info_parts info_int'
  have HI := Lib.hid (And.intro hi (And.intro hz0 (And.intro hz1 hz2)))
  have HA := Lib.hid ha
  have HB0 := Lib.hid hb
  have HU := Lib.hid hu
  have HV := Lib.hid hv'
  have HL := Lib.hid hl
  clear ha hb hu hv' hl hi hz0 hz1 hz2
  go_enter Try.func75, Try.ntmps75
  go_wp2
  go_loopw [5, 6] (fun o i wr => ∃ k : Nat, k ≤ u.length ∧ i = .int .i64 k ∧ wr.ownsRow w.heap.size 3 1 o k (intVals (lessL (u.take k) (v.take k))) ∧ Below w.heap.size w wr) (fun _ i _ => u.length - (RowKit.intOf i).toNat)
  case atStart => exact ⟨0, Nat.zero_le _, rfl, owns_none (Nat.le_refl _), (Below.refl _ _).alloc (Nat.le_refl _) _⟩
  case round =>
    obtain ⟨k, hk, rfl, how, hbr⟩ := hrel
    have HW := Lib.hid how
    have HB := Lib.hid hbr
    by_cases hlt : k < u.length
    · have hlt' : k < v.length := by have := HL.out; omega
      obtain ⟨b1, o1, rfl, hc1, hlt1, hx1⟩ := HA.out (by omega)
      obtain ⟨b2, o2, rfl, hc2, hlt2, hx2⟩ := HB0.out (by omega)
      have hcell1 := hx1 k _ (intVals_get u k hlt)
      have hcell2 := hx2 k _ (intVals_get v k hlt')
      rw [← hbr.cell (p := ⟨b1, o1 + k, none⟩) hlt1] at hcell1
      rw [← hbr.cell (p := ⟨b2, o2 + k, none⟩) hlt2] at hcell2
      clear hx1 hx2 hbr how
      have i1 : (0 : Int) ≤ (k : Int) := by omega
      have i2 : (k : Int) < (u.length : Int) := by omega
      have g1 := (HU.out k hlt).1
      have g2 := (HU.out k hlt).2
      have g3 := (HV.out k hlt').1
      have g4 := (HV.out k hlt').2
      have C1 := Lib.hid (show k + 1 ≤ maxLen by unfold maxLen; omega)
      have C2 := Lib.hid (show (k + 1) * 8 ≤ 140737488355328 by omega)
      have ZT := Lib.hid (zip_take (f := fun x y => x - y) hlt hlt')
      go_wp2
      go_region_held3 (fun w' => w'.cell? ⟨b1, o1 + k, none⟩ = some (.int .i64 u[k]) ∧ w'.cell? ⟨b2, o2 + k, none⟩ = some (.int .i64 v[k]))
        (first | go_keep | (go_split_ands; exact ⟨(hbel.cell hlt1).trans (by assumption), (hbel.cell hlt2).trans (by assumption)⟩))
        ((refine step_app_int (by rfl) _ _ (by rfl) w.heap.size _ k (lessL (u.take k) (v.take k)) _ (by rfl) ((HW.out.alloc _).drew) wr.heap.size (by rfl) (heap_alloc_new wr _) (by omega) (by have := HB.out.size; simp; omega) ?_; intro v' w1 hown1 hbel))
      rename_i hH
      have HO1 := Lib.hid hown1
      have HB1 := Lib.hid ((((HB.out.alloc HB.out.size _).drew).trans hbel))
      clear hown1 hbel hH
      go_wp2
      refine ⟨⟨k + 1, by omega, by go_num, ?_, HB1.out⟩, by simp [RowKit.intOf]; omega⟩
      have h := HO1.out
      rw [IntWalk.i64_in _ (by omega)] at h
      unfold lessL
      rw [ZT.out]
      exact h
    · obtain rfl : k = u.length := by omega
      clear hbr how
      go_wp2
      go_ret
      refine ⟨⟨_, rfl, ?_⟩, HB.out⟩
      have h := OwnV.of_owns HW.out
      rw [List.take_length, HL.out, List.take_length] at h
      exact h
set_option maxRecDepth 100000 in
set_option maxHeartbeats 800000 in
theorem i_addtP (a b c f x y z : Int) (w : World) (ha : -4000000000000000000 ≤ a ∧ a ≤ 4000000000000000000) (hb : -4000000000000000000 ≤ b ∧ b ≤ 4000000000000000000) (hc : -4000000000000000000 ≤ c ∧ c ≤ 4000000000000000000)
    (hx : -4000000000000000000 ≤ f * x ∧ f * x ≤ 4000000000000000000) (hy : -4000000000000000000 ≤ f * y ∧ f * y ≤ 4000000000000000000) (hz : -4000000000000000000 ≤ f * z ∧ f * z ≤ 4000000000000000000) :
    Calls Try.prog 73 #[.agg #[.int .i64 a, .int .i64 b, .int .i64 c], .int .i64 f, .agg #[.int .i64 x, .int .i64 y, .int .i64 z]] w (Arr w (a + f * x) (b + f * y) (c + f * z)) := by
  obtain ⟨a1, a2⟩ := ha
  obtain ⟨b1, b2⟩ := hb
  obtain ⟨c1, c2⟩ := hc
  obtain ⟨x1, x2⟩ := hx
  obtain ⟨y1, y2⟩ := hy
  obtain ⟨z1, z2⟩ := hz
  go_enter Try.func73, Try.ntmps73
  go_wp2
  refine wp_loop_rounds 4 ?_
  rw [rounds_succ]
  go_wp2
  go_region
  go_wp2
  rw [rounds_succ]
  go_wp2
  go_region
  go_wp2
  rw [rounds_succ]
  go_wp2
  go_region
  go_wp2
  rw [rounds_succ]
  go_wp2

  refine bodyPost_ret (v := .agg #[.int .i64 (a + f * x), .int .i64 (b + f * y), .int .i64 (c + f * z)]) ?_ rfl ⟨rfl, ?_⟩
  · simp [results, Try.results73, go_sem]
  · exact (((((((Below.refl _ _).alloc (Nat.le_refl _) _).alloc (by simp) _).alloc (by simp; omega) _).drew).drew).drew)
theorem idx3P (x y z : Value) : (∀ w, (Instr.index 85 (.agg #[x, y, z]) (.int .i64 0)).run Try.prog w = .ok x w) ∧ (∀ w, (Instr.index 85 (.agg #[x, y, z]) (.int .i64 1)).run Try.prog w = .ok y w) ∧ (∀ w, (Instr.index 85 (.agg #[x, y, z]) (.int .i64 2)).run Try.prog w = .ok z w) :=
  ⟨fun _ => by kernel_rfl, fun _ => by kernel_rfl, fun _ => by kernel_rfl⟩
/-- A row that was made just now is put into place j of a block without spare cells. -/
theorem OwR.putNew {T e : TypeId} {lo : Nat} {w w2 : World} {zss : List (List Int)} {b n : Nat} (hn : n = zss.length) (h : OwR T e lo w.heap.size w (.slice (some ⟨b, 0, none⟩) n n) zss) (hb : Below w.heap.size w w2) (hlo : lo ≤ w.heap.size) (j : Nat) (hj : j < zss.length) {u : Value} {ys : List Int}
    (hu : OwnV e w.heap.size w2.heap.size w2 u (intVals ys)) : OwR T e lo (w2.setCell ⟨b, j, none⟩ u).heap.size (w2.setCell ⟨b, j, none⟩ u) (.slice (some ⟨b, 0, none⟩) n n) (zss.set j ys) := by
  subst hn
  rw [show (w2.setCell ⟨b, j, none⟩ u).heap.size = w2.heap.size by simp [World.setCell]]
  have h2 := (h.below hb).mono (Nat.le_refl lo) hb.size
  refine h2.put j hj (hu.mono hlo (Nat.le_refl _)) ?_
  intro x hx
  have hxp := (hu.place hx).1
  obtain ⟨b', u', e1, hlb, hbl, hbs, _⟩ := h.at j hj rfl
  simp only [Option.some.injEq, Addr.mk.injEq] at e1
  obtain ⟨rfl, _, _⟩ := e1
  refine ⟨by omega, fun i r hr hrx => ?_⟩
  rw [hb.cell (p := ⟨b, i, none⟩) hbs] at hr
  obtain ⟨vs, k1, k2, k3, k4, k5⟩ := h
  rcases k2 with ⟨k6, _⟩ | ⟨g, cap, cur, e2, k7, k8, k9, k10, k11, k12, k13⟩
  · rw [k6] at k1; simp at k1; omega
  · simp only [Value.slice.injEq, Option.some.injEq, Addr.mk.injEq] at e2
    obtain ⟨⟨rfl, _, _⟩, e3, rfl⟩ := e2
    rw [cell_of_row _ _ _ _ _ _ k9] at hr
    have hcv : cur.toList = vs := by rw [← k13]; exact (List.take_of_length_le (by rw [Array.length_toList, k12]; omega)).symm
    have hv : vs[i]? = some r := by rw [← hcv, Array.getElem?_toList]; exact hr
    have hi := lt_of_get hv
    have hp := (k3 i r _ hv (List.getElem?_eq_getElem (by omega))).place hrx
    omega
def cmpJ (x y : Int) : Int := if x = y then 0 else if x < y then -1 else 1
theorem cmpJ_eq {x y : Int} (h : x = y) : cmpJ x y = 0 := if_pos h
theorem cmpJ_lt {x y : Int} (h : x < y) : cmpJ x y = -1 := by unfold cmpJ; rw [if_neg (by omega), if_pos h]
theorem cmpJ_gt {x y : Int} (h : y < x) : cmpJ x y = 1 := by unfold cmpJ; rw [if_neg (by omega), if_neg (by omega)]
end Go.Proofs.Ytjijgagdaolkcaa
/- The program's points of polygons: what is a corner. -/
namespace Go.Proofs.Ytjijgagdaolkcaa
open Go.RowKit Go.Lib

/-- Where the first number lies that is no coordinate, or -1. -/
def IdxCo (v : List Int) (w : World) (e : Ending) (w' : World) : Prop :=
  ((small v 50 = true ∧ e = .returned (.int .i64 (-1))) ∨ (small v 50 = false ∧ ∃ k : Nat, e = .returned (.int .i64 k))) ∧ Below w.heap.size w w'

theorem small_wide {v : List Int} (h : small v 50 = true) : small v 1000 = true := by
  unfold small at *
  rw [List.all_eq_true] at *
  intro x hx
  have := inR_t (h x hx)
  exact inR_mk (by omega) (by omega)
set_option maxRecDepth 100000 in
theorem i_plane (v : List Int) (a : Value) (w : World) (hv : Sl w a (intVals v)) :
    Calls Try.prog 81 #[a] w (Quiet w (.bool (isV v && decide (v.length = 2)))) := by
  have HV := Lib.hid hv
  obtain ⟨ad, c, rfl, hm, _⟩ := hv.shape
  rw [intVals_len] at hm HV ⊢
  unfold maxLen at hm
  clear hv
  by_cases h1 : isV v = true
  · have H1 := Lib.hid h1
    clear h1
    by_cases h2 : v.length = 2
    · have H2 := Lib.hid (decide_eq_true h2)
      have i2 : (v.length : Int) = 2 := by omega
      clear h2
      go_enter Try.func81, Try.ntmps81
      go_wp2_with fail
      refine (i_isv v _ _ HV.out).mono ?_
      rintro e w1 ⟨rfl, hb⟩
      rw [H1.out]
      go_wp2
      go_ret
      exact ⟨ret_bool (by rw [H1.out, H2.out]; rfl), hb⟩
    · have H2 := Lib.hid (decide_eq_false h2)
      have i2 : ¬ (v.length : Int) = 2 := by omega
      clear h2
      go_enter Try.func81, Try.ntmps81
      go_wp2_with fail
      refine (i_isv v _ _ HV.out).mono ?_
      rintro e w1 ⟨rfl, hb⟩
      rw [H1.out]
      go_wp2
      go_ret
      exact ⟨ret_bool (by rw [H1.out, H2.out]; exact beq_eq_false_iff_ne.2 i2), hb⟩
  · have H1 := Lib.hid (bool_f h1)
    clear h1
    go_enter Try.func81, Try.ntmps81
    go_wp2_with fail
    refine (i_isv v _ _ HV.out).mono ?_
    rintro e w1 ⟨rfl, hb⟩
    rw [H1.out]
    go_wp2
    go_ret
    exact ⟨ret_bool (by rw [H1.out]; rfl), hb⟩
/-- Whether a row is a point of the plane within bounds. -/
def flat1 (v : List Int) : Bool := decide (v.length = 2) && small v 50
theorem flatR_all (l : List (List Int)) : flatR l = l.all flat1 := rfl
theorem flat1_of {v : List Int} (h : (isV v && decide (v.length = 2)) = true) : flat1 v = small v 50 := by
  rw [Bool.and_eq_true] at h
  unfold flat1
  rw [h.2, Bool.true_and]
theorem flat1_not {v : List Int} (h : (isV v && decide (v.length = 2)) = false) : flat1 v = false := by
  cases hf : flat1 v with
  | false => rfl
  | true =>
    unfold flat1 at hf
    rw [Bool.and_eq_true] at hf
    have hl := of_decide_eq_true hf.1
    rw [hf.1, Bool.and_true, isV_mk (by omega) (by omega), small_wide hf.2] at h
    cases h
/-- Where the first row lies that is no corner, or -1. -/
def IdxR (l : List (List Int)) (w : World) (e : Ending) (w' : World) : Prop :=
  ((flatR l = true ∧ e = .returned (.int .i64 (-1))) ∨ (flatR l = false ∧ ∃ k : Nat, e = .returned (.int .i64 k))) ∧ Below w.heap.size w w'
theorem flatR_take {l : List (List Int)} {k : Nat} (h : k < l.length) (h1 : flatR (l.take k) = true) (h2 : flat1 l[k] = true) : flatR (l.take (k + 1)) = true := by
  rw [List.take_succ_eq_append_getElem h]
  rw [flatR_all] at *
  rw [List.all_append, h1, List.all_cons, h2]; rfl
theorem flatR_not {l : List (List Int)} {k : Nat} (h : k < l.length) (h2 : flat1 l[k] = false) : flatR l = false := by
  rw [flatR_all, List.all_eq_false]
  exact ⟨l[k], List.getElem_mem h, by rw [h2]; simp⟩
end Go.Proofs.Ytjijgagdaolkcaa
/- The model's turns; rows that are points of the plane. -/
namespace Go.Proofs.Ytjijgagdaolkcaa
open Go.RowKit Go.Lib

theorem row_cells {w : World} {a : Value} {p : P2} (h : Sl w a (intVals (rowOf p))) : ∃ b off c : Nat, a = .slice (some ⟨b, off, none⟩) 2 c ∧ 2 ≤ c ∧ b < w.heap.size ∧ w.cell? ⟨b, off, none⟩ = some (.int .i64 p.1) ∧ w.cell? ⟨b, off + 1, none⟩ = some (.int .i64 p.2) := by
  obtain ⟨ad, c, rfl, _, ho⟩ := h.shape
  obtain ⟨b, off, rfl, hc, hlt, hx⟩ := ho (by simp [intVals, rowOf])
  exact ⟨b, off, c, by simp [intVals, rowOf], by simpa [intVals, rowOf] using hc, hlt, hx 0 _ rfl, hx 1 _ rfl⟩
theorem prodT {x y : Int} (hx : -4000 ≤ x ∧ x ≤ 4000) (hy : -4000 ≤ y ∧ y ≤ 4000) : -16000000 ≤ x * y ∧ x * y ≤ 16000000 := mul_bd hx.1 hx.2 hy.1 hy.2
set_option maxRecDepth 100000 in
set_option maxHeartbeats 400000 in
theorem s_cross (p q : P2) (hp : (-4000 ≤ p.1 ∧ p.1 ≤ 4000) ∧ -4000 ≤ p.2 ∧ p.2 ≤ 4000) (hq : (-4000 ≤ q.1 ∧ q.1 ≤ 4000) ∧ -4000 ≤ q.2 ∧ q.2 ≤ 4000) (a b : Value) (w : World) (ha : Sl w a (intVals (rowOf p))) (hb : Sl w b (intVals (rowOf q))) :
    Calls Try.prog 78 #[a, b] w (Quiet w (.int .i64 (p.1 * q.2 - p.2 * q.1))) := by
  obtain ⟨b1, o1, c1, rfl, k1, l1, x1, y1⟩ := row_cells ha
  obtain ⟨b2, o2, c2, rfl, k2, l2, x2, y2⟩ := row_cells hb
  obtain ⟨m1, m2⟩ := prodT hp.1 hq.2
  obtain ⟨n1, n2⟩ := prodT hp.2 hq.1
  clear ha hb hp hq
  obtain ⟨p1, p2⟩ := p
  obtain ⟨q1, q2⟩ := q
  simp only at *
  have HB := Lib.hid (Below.refl w.heap.size w)
  go_enter Try.func78, Try.ntmps78
  go_wp2
  go_quiet (fail)
  go_wp2
  go_ret
  refine ⟨rfl, below_drewN' HB.out _⟩

theorem lessL_row (p q : P2) : lessL (rowOf p) (rowOf q) = rowOf (p.1 - q.1, p.2 - q.2) := rfl
/-- Within bounds. -/
def BdP (n : Int) (p : P2) : Prop := (-n ≤ p.1 ∧ p.1 ≤ n) ∧ -n ≤ p.2 ∧ p.2 ≤ n
theorem BdP.bd {n : Int} {p : P2} (h : BdP n p) : Bd (rowOf p) n := by
  intro k hk
  rcases (by simp [rowOf] at hk; omega : k = 0 ∨ k = 1) with rfl | rfl
  · exact h.1
  · exact h.2
theorem BdP.less {n m r : Int} {p q : P2} (h : BdP n p) (k : BdP m q) (hr : n + m ≤ r) : BdP r (p.1 - q.1, p.2 - q.2) := by
  unfold BdP at *
  simp only
  omega
theorem turn_eq (a b c : P2) : (b.1 - a.1) * (c.2 - b.2) - (b.2 - a.2) * (c.1 - b.1) = turnP a b c := by
  unfold turnP
  grind
end Go.Proofs.Ytjijgagdaolkcaa
/- Facts on bending that both sides want. -/
namespace Go.Proofs.Ytjijgagdaolkcaa
open Go.RowKit Go.Lib

theorem grown_ofb {w w' : World} {r : Option Nat} (h : Below w.heap.size w w') : w.grownBy w' r := ⟨h.os, h.tape, h.output, h.size, fun q hq _ => h.block q hq⟩
theorem keepP2 {w W : World} {p q : Addr} {x y : Value} (h1 : W.cell? p = some x) (h2 : W.cell? q = some y) (h3 : Below w.heap.size w W) : W.drew.cell? p = some x ∧ W.drew.cell? q = some y ∧ Below w.heap.size w W.drew := ⟨h1, h2, h3.drew⟩
theorem keepQ2 {w W w1 : World} {p q : Addr} {x y : Value} (hp : p.block < w.heap.size) (hq : q.block < w.heap.size) (h1 : W.cell? p = some x) (h2 : W.cell? q = some y) (h3 : Below w.heap.size w W) (hb : Below W.heap.size W w1) :
    w1.cell? p = some x ∧ w1.cell? q = some y ∧ Below w.heap.size w w1 :=
  ⟨(hb.cell (Nat.lt_of_lt_of_le hp h3.size)).trans h1, (hb.cell (Nat.lt_of_lt_of_le hq h3.size)).trans h2, h3.trans (hb.mono h3.size)⟩
theorem egen {F : Exit → Act → World → Prop} {e : Exit} {a : Act} {w : World} (h : ∀ W, W = w → F e a W) : F e a w := h w rfl
def slen : Value → Nat
  | .slice _ n _ => n
  | _ => 0
theorem bendR_take {L : List P2} {k : Nat} (h : k < L.length) : bendR (L.take (k + 1)) = L[k] :: popR (bendR (L.take k)) L[k] := by
  unfold bendR
  rw [List.take_succ_eq_append_getElem h, List.foldl_append]; rfl
theorem bend_take_ok {L : List P2} (k : Nat) : (∀ p ∈ bendR (L.take k), p ∈ L) ∧ (bendR (L.take k)).length ≤ L.length := by
  constructor
  · intro p hp
    rcases bendR_mem (L.take k) [] p hp with h | h
    · cases h
    · exact List.mem_of_mem_take h
  · have := bendR_len (L.take k) []
    rw [List.length_take] at this
    unfold bendR
    simp only [List.length_nil] at this; omega
theorem BdP.wide {n m : Int} {p : P2} (h : BdP n p) (hm : n ≤ m) : BdP m p := by unfold BdP at *; omega
theorem bend_full {L : List P2} (h : 0 < L.length) : ∃ x t, bendR L = x :: t := by
  match L, h with
  | y :: l, _ =>
    unfold bendR
    rw [List.foldl_cons]
    have : ∀ (l acc : List P2), acc ≠ [] → l.foldl stepR acc ≠ [] := by
      intro l
      induction l with
      | nil => intro acc h; exact h
      | cons z l ih => intro acc _; exact ih _ (by simp [stepR])
    match hq : l.foldl stepR (stepR [] y), this l (stepR [] y) (by simp [stepR]) with
    | x :: t, _ => exact ⟨x, t, rfl⟩

end Go.Proofs.Ytjijgagdaolkcaa
/- The program's turns. -/
namespace Go.Proofs.Ytjijgagdaolkcaa
open Go Go.RowKit Go.Lib

set_option maxRecDepth 100000 in
set_option maxHeartbeats 800000 in
theorem i_cross4 (a b c d e f : Int) (ha : -4000 ≤ a ∧ a ≤ 4000) (hb : -4000 ≤ b ∧ b ≤ 4000) (hc : -4000 ≤ c ∧ c ≤ 4000) (hd : -4000 ≤ d ∧ d ≤ 4000) (he : -4000 ≤ e ∧ e ≤ 4000) (hf : -4000 ≤ f ∧ f ≤ 4000) (w : World) :
    Calls Try.prog 108 #[.agg #[.int .i64 a, .int .i64 b, .int .i64 c], .agg #[.int .i64 d, .int .i64 e, .int .i64 f]] w (Arr w (b * f - c * e) (c * d - a * f) (a * e - b * d)) := by
  obtain ⟨p1, q1⟩ := prodT hb hf
  obtain ⟨p2, q2⟩ := prodT hc he
  obtain ⟨p3, q3⟩ := prodT hc hd
  obtain ⟨p4, q4⟩ := prodT ha hf
  obtain ⟨p5, q5⟩ := prodT ha he
  obtain ⟨p6, q6⟩ := prodT hb hd
  clear ha hb hc hd he hf
  go_enter Try.func108, Try.ntmps108
  go_wp2
  refine bodyPost_ret (v := .agg #[.int .i64 (b * f - c * e), .int .i64 (c * d - a * f), .int .i64 (a * e - b * d)]) ?_ rfl ⟨rfl, ?_⟩
  · simp [results, Try.results108, go_sem]
  · exact (((Below.refl _ _).alloc (Nat.le_refl _) _).alloc (by simp) _).alloc (by simp; omega) _

set_option maxRecDepth 100000 in
set_option maxHeartbeats 800000 in
theorem i_pdet4 (a b c d e f : Int) (ha : -4000 ≤ a ∧ a ≤ 4000) (hb : -4000 ≤ b ∧ b ≤ 4000) (hc : -4000 ≤ c ∧ c ≤ 4000) (hd : -4000 ≤ d ∧ d ≤ 4000) (he : -4000 ≤ e ∧ e ≤ 4000) (hf : -4000 ≤ f ∧ f ≤ 4000) (w : World) :
    Calls Try.prog 65 #[.agg #[.int .i64 a, .int .i64 b, .int .i64 c], .agg #[.int .i64 d, .int .i64 e, .int .i64 f]] w (Quiet w (.int .i64 (a * e - b * d))) := by
  have CR := Lib.hid (fun W => i_cross4 a b c d e f ha hb hc hd he hf W)
  have B0 := Lib.hid (below2 w (.cells #[.int .i64 a, .int .i64 b, .int .i64 c] 85) (.cells #[.int .i64 d, .int .i64 e, .int .i64 f] 85))
  generalize b * f - c * e = n0 at CR
  generalize c * d - a * f = n1 at CR
  generalize a * e - b * d = n2 at *
  clear ha hb hc hd he hf
  obtain ⟨-, -, ix2⟩ := idx3P (.int .i64 n0) (.int .i64 n1) (.int .i64 n2)
  go_enter Try.func65, Try.ntmps65
  go_wp2_with fail
  refine (CR.out _).mono ?_
  rintro e w1 ⟨rfl, hb⟩
  have B1 := Lib.hid (B0.out.trans (hb.mono B0.out.size))
  clear hb
  go_wp2_with fail
  go_ret
  exact ⟨rfl, B1.out⟩

/-- A point as the program holds it. -/
def ptV (p : P2) : Value := .agg #[.int .i64 p.1, .int .i64 p.2, .int .i64 0]
theorem bk3c {w : World} {b : Nat} {x y z : Value} {T : TypeId} (h : Bk w b #[x, y, z] T) : w.cell? ⟨b, 0, none⟩ = some x ∧ w.cell? ⟨b, 1, none⟩ = some y ∧ w.cell? ⟨b, 2, none⟩ = some z := ⟨h.cell 0 rfl, h.cell 1 rfl, h.cell 2 rfl⟩
/-- The determinant of two points. -/
theorem i_pdet (p q : P2) (hp : BdP 4000 p) (hq : BdP 4000 q) (w : World) :
    Calls Try.prog 65 #[ptV p, ptV q] w (Quiet w (.int .i64 (p.1 * q.2 - p.2 * q.1))) :=
  i_pdet4 p.1 p.2 0 q.1 q.2 0 hp.1 hp.2 (by omega) hq.1 hq.2 (by omega) w
end Go.Proofs.Ytjijgagdaolkcaa
/- append at whatever element type: the slice that is appended may be empty; the answer has a slice's form. -/
namespace Go.Proofs.Ytjijgagdaolkcaa
open Go.RowKit Go.Lib

theorem owns_slice {w : World} {base : Nat} {e : TypeId} {k : Nat} {v : Value} {n : Nat} {xs : List Value} (h : w.ownsRow base e k v n xs) : ∃ (a : Option Addr) (c : Nat), v = .slice a n c ∧ n ≤ c ∧ c ≤ maxLen := by
  rcases h.2 with ⟨rfl, h0⟩ | ⟨g, cap, cur, rfl, _, _, h1, h2, _⟩
  · exact ⟨none, 0, by rw [h0], by omega, by unfold maxLen; omega⟩
  · exact ⟨_, cap, rfl, h1, h2⟩
/-- append(v, news...) at an operation: news may be none. -/
theorem wp_appG {o : Oper} {a : Act} {w : World} {K : Act → World → Prop} {Q : Exit → Act → World → Prop} (s x : Operand) (t : TypeId)
    (ho : o.op = .call { callee := .builtin .append, args := #[s, x], argTypes := #[t, t] })
    (base : Nat) (e : TypeId) (i : TypeInfo) (z : Value) (size bytes : Nat) (ht : Try.prog.underlying t = some (.slice e)) (hi : Try.prog.info? e = some i) (hz : i.zero = some z)
    (hsize : i.size = size) (hby : i.bytes = bytes) (hzs : z.cells.size = size) (hsz : 0 < size)
    (v : Value) (n : Nat) (xs : List Value) (hs : a.eval s = v) (hown : w.ownsRow base e size v n xs)
    (ad : Option Addr) (m c : Nat) (news : List Value) (hx : a.eval x = .slice ad m c) (hl : news.length = m * size) (hnews : 0 < m → ∃ p, ad = some p ∧ ∀ j u, news[j]? = some u → w.cell? (p.add j) = some u) (h1 : ∀ u ∈ news, u.oneCell' = true)
    (h63 : n + m ≤ 1099511627776) (hbytes : bytes ≤ 64) (hbase : base ≤ w.heap.size)
    (h : ∀ a' c' w', w'.ownsRow base e size (.slice a' (n + m) c') (n + m) (xs ++ news) → w.grownBy w' v.ownBlock → (∀ b, (Value.slice a' (n + m) c').ownBlock = some b → v.ownBlock = some b ∨ w.heap.size ≤ b) → K (a.put o.dst (.slice a' (n + m) c')) w') : o.wp Try.prog a w K Q := by
  by_cases h0 : 0 < m
  · obtain ⟨p, rfl, hp⟩ := hnews h0
    refine wp_append_lies w s x t ho base e i z size bytes ht hi hz hsize hby hzs hsz v n xs hs hown p m c news hx hl hp h1 h0 (by unfold maxLen; omega) ?_ hbase w.heap.size rfl ?_
    · exact Nat.le_trans (Nat.mul_le_mul h63 hbytes) (by omega)
    · intro g cap w' k1 k2 k3 _
      refine h _ _ w' k1 k2 fun b hb => ?_
      have hgb : g = b := by simpa [Value.ownBlock] using hb
      rcases k3 with k3 | k3
      · exact .inl (by rw [k3, hgb])
      · exact .inr (by omega)
  · obtain rfl : m = 0 := by omega
    obtain rfl : news = [] := List.eq_nil_of_length_eq_zero (by rw [hl, Nat.zero_mul])
    obtain ⟨a', c', rfl, _⟩ := owns_slice hown
    have hr := runNone (w := w) base t o.type e i size ht hi _ n xs hown ad c
    unfold Oper.wp execOp
    simp only [ho, resolve, invoke, builtin, Sem.run_bind, Sem.run_pure, Result.andThen_ok, List.map_toArray, List.map_cons, List.map_nil, hs, hx, hr]
    exact h a' c' w (by rw [List.append_nil]; exact hown) ⟨rfl, rfl, rfl, Nat.le_refl _, fun _ _ _ => rfl⟩ fun b hb => .inl hb
theorem list_appG {ops : Array Oper} {rest : List Oper} {o : Oper} {a : Act} {w : World} {Q : Exit → Act → World → Prop} (hgd : o.guard = none) (s x : Operand) (t : TypeId)
    (ho : o.op = .call { callee := .builtin .append, args := #[s, x], argTypes := #[t, t] })
    (base : Nat) (e : TypeId) (i : TypeInfo) (z : Value) (size bytes : Nat) (ht : Try.prog.underlying t = some (.slice e)) (hi : Try.prog.info? e = some i) (hz : i.zero = some z)
    (hsize : i.size = size) (hby : i.bytes = bytes) (hzs : z.cells.size = size) (hsz : 0 < size)
    (v : Value) (n : Nat) (xs : List Value) (hs : a.eval s = v) (hown : w.ownsRow base e size v n xs)
    (ad : Option Addr) (m c : Nat) (news : List Value) (hx : a.eval x = .slice ad m c) (hl : news.length = m * size) (hnews : 0 < m → ∃ p, ad = some p ∧ ∀ j u, news[j]? = some u → w.cell? (p.add j) = some u) (h1 : ∀ u ∈ news, u.oneCell' = true)
    (h63 : n + m ≤ 1099511627776) (hbytes : bytes ≤ 64) (hbase : base ≤ w.heap.size)
    (h : ∀ a' c' w', w'.ownsRow base e size (.slice a' (n + m) c') (n + m) (xs ++ news) → w.grownBy w' v.ownBlock → (∀ b, (Value.slice a' (n + m) c').ownBlock = some b → v.ownBlock = some b ∨ w.heap.size ≤ b) → wpList Try.prog ops Q rest (a.put o.dst (.slice a' (n + m) c')) w') : wpList Try.prog ops Q (o :: rest) a w :=
  wpList_plain hgd fun _ hK => wp_appG s x t ho base e i z size bytes ht hi hz hsize hby hzs hsz v n xs hs hown ad m c news hx hl hnews h1 h63 hbytes hbase fun a' c' w' k1 k2 k3 => hK _ _ (h a' c' w' k1 k2 k3)
/-- What reads as a list lies where append looks for it. -/
theorem Sl.news {w : World} {ad : Option Addr} {m c : Nat} {ys : List Value} (h : Sl w (.slice ad m c) ys) : ys.length = m * 1 ∧ (0 < m → ∃ p, ad = some p ∧ ∀ j u, ys[j]? = some u → w.cell? (p.add j) = some u) := by
  obtain ⟨a, c', e, _, ho⟩ := h.shape
  simp only [Value.slice.injEq] at e
  obtain ⟨rfl, rfl, rfl⟩ := e
  refine ⟨by omega, fun h0 => ?_⟩
  obtain ⟨b, off, e, _, _, hx⟩ := ho h0
  refine ⟨⟨b, off, none⟩, e, fun j u hu => ?_⟩
  have hadd : (⟨b, off, none⟩ : Addr).add j = ⟨b, off + j, none⟩ := by
    unfold Addr.add
    split
    · simp_all
    · rfl
  rw [hadd]
  exact hx j u hu
/-- What was appended to lies in its block alone; the others are as they were. -/
theorem OwnV.grown' {e : TypeId} {lo hi : Nat} {w w' : World} {v : Value} {xs : List Value} {r : Option Nat} (h : OwnV e lo hi w v xs) (hg : w.grownBy w' r) (hne : ∀ b, v.ownBlock = some b → r ≠ some b) : OwnV e lo hi w' v xs := by
  rcases h with h | ⟨g, cap, cur, rfl, h1, h2, hb, hr⟩
  · exact .inl h
  · exact .inr ⟨g, cap, cur, rfl, h1, h2, by rw [hg.block g (lt_of_heap hb) (fun e => hne g rfl e.symm)]; exact hb, hr⟩
end Go.Proofs.Ytjijgagdaolkcaa
/- Slices of elements of k cells each that the call made itself; whatever the element, its cells hold no address. -/
namespace Go.Proofs.Ytjijgagdaolkcaa
open Go.RowKit Go.Lib

section
variable {α : Type} (enc : α → List Value) (k : Nat)
theorem flatE_len (hk : ∀ x, (enc x).length = k) : ∀ l : List α, (l.flatMap enc).length = l.length * k
  | [] => by simp
  | x :: l => by rw [List.flatMap_cons, List.length_append, hk, flatE_len hk l, List.length_cons, Nat.succ_mul]; omega
theorem flatE_get (hk : ∀ x, (enc x).length = k) : ∀ (l : List α) (j c : Nat) (h : j < l.length) (_ : c < k), (l.flatMap enc)[j * k + c]? = (enc l[j])[c]?
  | [], j, c, h, _ => by simp at h
  | x :: l, 0, c, h, hc => by rw [List.flatMap_cons, Nat.zero_mul, Nat.zero_add, List.getElem?_append_left (by rw [hk]; exact hc)]; rfl
  | x :: l, j + 1, c, h, hc => by
    rw [List.flatMap_cons, List.getElem?_append_right (by rw [hk, Nat.succ_mul]; omega), hk, show (j + 1) * k + c - k = j * k + c by rw [Nat.succ_mul]; omega, flatE_get hk l j c (by simpa using h) hc]; rfl
theorem flatE_take (hk : ∀ x, (enc x).length = k) : ∀ (l : List α) (n : Nat), (l.flatMap enc).take (n * k) = (l.take n).flatMap enc
  | [], n => by simp
  | x :: l, 0 => by simp
  | x :: l, n + 1 => by
    rw [List.flatMap_cons, List.take_succ_cons, List.flatMap_cons, List.take_append, hk, show (n + 1) * k - k = n * k by rw [Nat.succ_mul]; omega, flatE_take hk l n, List.take_of_length_le (by rw [hk, Nat.succ_mul]; omega)]
theorem flatE_drop (hk : ∀ x, (enc x).length = k) : ∀ (l : List α) (n : Nat), (l.flatMap enc).drop (n * k) = (l.drop n).flatMap enc
  | [], n => by simp
  | x :: l, 0 => by simp
  | x :: l, n + 1 => by
    rw [List.flatMap_cons, List.drop_succ_cons, List.drop_append, hk, show (n + 1) * k - k = n * k by rw [Nat.succ_mul]; omega, flatE_drop hk l n, List.drop_of_length_le (by rw [hk, Nat.succ_mul]; omega), List.nil_append]

/-- The elements l lie at v, in a block of the call's own between lo and hi. -/
def OwE (T : TypeId) (lo hi : Nat) (w : World) (v : Value) (l : List α) : Prop := w.ownsRow lo T k v l.length (l.flatMap enc) ∧ ∀ b, v.ownBlock = some b → b < hi
variable {enc : α → List Value} {k : Nat} {T : TypeId} {lo hi : Nat} {w w' : World} {v : Value} {l : List α}
theorem ownsK_kept {a b n : Nat} {xs : List Value} (h : w.ownsRow lo T k v n xs) (hv : ∀ b, v.ownBlock = some b → b < hi) (hk : Kept a b w w') (hd : hi ≤ a ∨ b ≤ lo) : w'.ownsRow lo T k v n xs := by
  obtain ⟨h1, h2⟩ := h
  refine ⟨h1, ?_⟩
  rcases h2 with h2 | ⟨g, cap, cur, rfl, hg, hh, hr⟩
  · exact .inl h2
  · have := hv g rfl
    exact .inr ⟨g, cap, cur, rfl, hg, by rw [hk.block g (lt_of_heap hh) (by omega)]; exact hh, hr⟩
theorem OwE.kept {a b : Nat} (h : OwE enc k T lo hi w v l) (hk : Kept a b w w') (hd : hi ≤ a ∨ b ≤ lo) : OwE enc k T lo hi w' v l := ⟨ownsK_kept h.1 h.2 hk hd, h.2⟩
theorem OwE.below (h : OwE enc k T lo hi w v l) (hb : Below w.heap.size w w') : OwE enc k T lo hi w' v l :=
  h.kept (Kept.of_below (lo := hi) (hi := hi) hb) (.inl (Nat.le_refl _))
theorem OwE.mono {lo' hi' : Nat} (h : OwE enc k T lo hi w v l) (h1 : lo' ≤ lo) (h2 : hi ≤ hi') : OwE enc k T lo' hi' w v l :=
  ⟨Go.Joins.ownsRow_le h.1 h1, fun b hb => Nat.lt_of_lt_of_le (h.2 b hb) h2⟩
theorem OwE.grown {r : Option Nat} (h : OwE enc k T lo hi w v l) (hg : w.grownBy w' r) (hne : ∀ b, v.ownBlock = some b → r ≠ some b) : OwE enc k T lo hi w' v l := by
  obtain ⟨⟨h1, h2⟩, h3⟩ := h
  refine ⟨⟨h1, ?_⟩, h3⟩
  rcases h2 with h2 | ⟨g, cap, cur, rfl, hg', hh, hr⟩
  · exact .inl h2
  · exact .inr ⟨g, cap, cur, rfl, hg', by rw [hg.block g (lt_of_heap hh) (fun e => hne g rfl e.symm)]; exact hh, hr⟩
theorem OwE.nil : OwE enc k T lo hi w (.slice none 0 0) ([] : List α) := ⟨World.ownsRow_nil _ _ _ _, fun b hb => by cases hb⟩
theorem OwE.shape (h : OwE enc k T lo hi w v l) : ∃ (a : Option Addr) (c : Nat), v = .slice a l.length c ∧ l.length ≤ c ∧ c ≤ maxLen := owns_slice h.1
/-- Element j: its cells. -/
theorem OwE.at (hk : ∀ x, (enc x).length = k) (h : OwE enc k T lo hi w v l) (j : Nat) (hj : j < l.length) (k0 : 0 < k) {a : Option Addr} {n c : Nat} (hv : v = .slice a n c) :
    ∃ b : Nat, a = some ⟨b, 0, none⟩ ∧ n = l.length ∧ lo ≤ b ∧ b < hi ∧ b < w.heap.size ∧ l.length ≤ c ∧ (∀ i, i < k → w.cell? ⟨b, j * k + i, none⟩ = (enc l[j])[i]?) ∧ ∀ i, w.frozen? ⟨b, i, none⟩ = false := by
  obtain ⟨k2, k3⟩ := h
  obtain ⟨g, cap, e1⟩ := Go.Joins.ownsRow_form k2 (by omega)
  subst e1
  simp only [Value.slice.injEq] at hv
  obtain ⟨rfl, rfl, rfl⟩ := hv
  have hlt := k2.lt g rfl
  have hc : l.length ≤ cap := by
    rcases k2.2 with ⟨k7, _⟩ | ⟨g', cap', cur, e2, _, _, k9, _⟩
    · cases k7
    · simp only [Value.slice.injEq] at e2
      rw [e2.2.2]; exact k9
  refine ⟨g, rfl, rfl, hlt.1, k3 g rfl, hlt.2, hc, fun i hi => ?_, fun i => k2.frozenAt i⟩
  have hb : j * k + i < l.length * k := by
    have := Nat.mul_le_mul_right k (show j + 1 ≤ l.length from hj)
    rw [Nat.succ_mul] at this; omega
  rw [k2.cellAt _ hb, flatE_get enc k hk l j i hj hi]
/-- The first m elements. -/
theorem OwE.cut (hk : ∀ x, (enc x).length = k) {g n c m : Nat} (h : OwE enc k T lo hi w (.slice (some ⟨g, 0, none⟩) n c) l) (hm : m ≤ l.length) : OwE enc k T lo hi w (.slice (some ⟨g, 0, none⟩) m c) (l.take m) := by
  obtain ⟨h1, h2⟩ := h
  obtain ⟨g', cap, e1, _⟩ := owns_slice h1
  simp only [Value.slice.injEq] at e1
  obtain ⟨_, rfl, _⟩ := e1
  have h3 := ownsCut h1 hm
  rw [flatE_take enc k hk] at h3
  refine ⟨by rw [List.length_take, Nat.min_eq_left hm]; exact h3, fun b hb => h2 b hb⟩
end

/-- The cells of a point. -/
def encP (p : P2) : List Value := [.int .i64 p.1, .int .i64 p.2, .int .i64 0]
theorem encP_len (p : P2) : (encP p).length = 3 := rfl
theorem encP_one (p : P2) : ∀ v ∈ encP p, v.oneCell' = true := by
  intro v hv
  simp only [encP, List.mem_cons, List.not_mem_nil, or_false] at hv
  rcases hv with rfl | rfl | rfl <;> rfl
theorem flatP_one (l : List P2) : ∀ v ∈ l.flatMap encP, v.oneCell' = true := by
  intro v hv
  obtain ⟨p, _, h⟩ := List.mem_flatMap.1 hv
  exact encP_one p v h
theorem info_nums : (Try.prog.info? 85).map (fun i => (i.zero, i.size, i.bytes)) = some (some (.agg #[.int .i64 0, .int .i64 0, .int .i64 0]), 3, 24) := by kernel_rfl
abbrev OwP (lo hi : Nat) (w : World) (v : Value) (l : List P2) : Prop := OwE encP 3 85 lo hi w v l
theorem OwE.at3 {lo hi : Nat} {w : World} {v : Value} {l : List P2} (h : OwP lo hi w v l) (j : Nat) (hj : j < l.length) {a : Option Addr} {n c : Nat} (hv : v = .slice a n c) :
    ∃ b : Nat, a = some ⟨b, 0, none⟩ ∧ n = l.length ∧ lo ≤ b ∧ b < hi ∧ b < w.heap.size ∧ l.length ≤ c ∧ (w.cell? ⟨b, j * 3, none⟩ = some (.int .i64 l[j].1) ∧ w.cell? ⟨b, j * 3 + 1, none⟩ = some (.int .i64 l[j].2) ∧ w.cell? ⟨b, j * 3 + 2, none⟩ = some (.int .i64 0)) ∧ ∀ i, w.frozen? ⟨b, i, none⟩ = false := by
  obtain ⟨b, h1, h2, h3, h4, h5, h6, h7, h8⟩ := OwE.at encP_len h j hj (by omega) hv
  exact ⟨b, h1, h2, h3, h4, h5, h6, ⟨h7 0 (by omega), h7 1 (by omega), h7 2 (by omega)⟩, h8⟩
theorem flatP_put : ∀ (l : List P2) (j : Nat) (p : P2), (((l.flatMap encP).set (j * 3) (.int .i64 p.1)).set (j * 3 + 1) (.int .i64 p.2)).set (j * 3 + 2) (.int .i64 0) = (l.set j p).flatMap encP
  | [], j, p => by simp
  | x :: l, 0, p => by simp [encP]
  | x :: l, j + 1, p => by
    have ih := flatP_put l j p
    rw [show (j + 1) * 3 = j * 3 + 1 + 1 + 1 from by omega]
    simp only [List.flatMap_cons, encP, List.cons_append, List.nil_append, List.set_cons_succ, show j * 3 + 1 + 1 + 1 + 1 = j * 3 + 1 + 1 + 1 + 1 from rfl, show j * 3 + 1 + 1 + 1 + 2 = j * 3 + 2 + 1 + 1 + 1 from rfl, ← ih]
/-- A point is stored at place j. -/
theorem OwE.put3 {lo hi : Nat} {w : World} {b n c : Nat} {l : List P2} (h : OwP lo hi w (.slice (some ⟨b, 0, none⟩) n c) l) (j : Nat) (hj : j < l.length) (p : P2) :
    OwP lo hi (((w.setCell ⟨b, j * 3, none⟩ (.int .i64 p.1)).setCell ⟨b, j * 3 + 1, none⟩ (.int .i64 p.2)).setCell ⟨b, j * 3 + 2, none⟩ (.int .i64 0)) (.slice (some ⟨b, 0, none⟩) n c) (l.set j p) := by
  obtain ⟨k2, k3⟩ := h
  obtain ⟨g, cap, e1⟩ := Go.Joins.ownsRow_form k2 (by omega)
  simp only [Value.slice.injEq, Option.some.injEq, Addr.mk.injEq] at e1
  obtain ⟨⟨rfl, _, _⟩, rfl, rfl⟩ := e1
  have hst := ((((k2.stored (j * 3) (.int .i64 p.1)).1).stored (j * 3 + 1) (.int .i64 p.2)).1.stored (j * 3 + 2) (.int .i64 0)).1
  rw [flatP_put l j p] at hst
  exact ⟨by rw [List.length_set]; exact hst, k3⟩
theorem made_zerosP (n : Nat) : (madeCells #[.int .i64 0, .int .i64 0, .int .i64 0] (n * 3)).toList = (List.replicate n ((0, 0) : P2)).flatMap encP := by
  refine List.ext_getElem? fun i => ?_
  have hl := flatE_len encP 3 encP_len (List.replicate n ((0, 0) : P2))
  rw [List.length_replicate] at hl
  by_cases hi : i < n * 3
  · have e1 : (madeCells #[.int .i64 0, .int .i64 0, .int .i64 0] (n * 3)).toList[i]? = some ((#[Value.int .i64 0, .int .i64 0, .int .i64 0] : Array Value)[i % 3]!) := by
      unfold madeCells
      rw [Array.getElem?_toList, Array.getElem?_map]
      simp [hi]
    have hj : i / 3 < (List.replicate n ((0, 0) : P2)).length := by simp; omega
    have g := fun c hc => flatE_get encP 3 encP_len (List.replicate n ((0, 0) : P2)) (i / 3) c hj hc
    simp only [List.getElem_replicate] at g
    rw [e1]
    have h3 : i % 3 < 3 := Nat.mod_lt _ (by omega)
    rcases (by omega : i % 3 = 0 ∨ i % 3 = 1 ∨ i % 3 = 2) with h | h | h <;> rw [h]
    · rw [show i = i / 3 * 3 + 0 by omega, g 0 (by omega)]; rfl
    · rw [show i = i / 3 * 3 + 1 by omega, g 1 (by omega)]; rfl
    · rw [show i = i / 3 * 3 + 2 by omega, g 2 (by omega)]; rfl
  · rw [List.getElem?_eq_none (by rw [Array.length_toList, size_madeCells]; omega), List.getElem?_eq_none (by rw [hl]; omega)]
theorem OwE.zeros3 {base lo hi : Nat} {w : World} {b n : Nat} (h : w.ownsRow base 85 3 (.slice (some ⟨b, 0, none⟩) n n) n (madeCells #[.int .i64 0, .int .i64 0, .int .i64 0] (n * 3)).toList) (hlo : lo ≤ base) (hhi : b < hi) : OwP lo hi w (.slice (some ⟨b, 0, none⟩) n n) (List.replicate n (0, 0)) := by
  rw [made_zerosP] at h
  refine ⟨?_, fun x hx => (show b = x by simpa [Value.ownBlock] using hx) ▸ hhi⟩
  rw [List.length_replicate]
  exact Go.Joins.ownsRow_le h hlo
end Go.Proofs.Ytjijgagdaolkcaa
/- The program's bendLeft. -/
namespace Go.Proofs.Ytjijgagdaolkcaa
open Go Go.RowKit Go.Lib

theorem keep9D {w W : World} {p1 p2 p3 p4 p5 p6 p7 p8 p9 : Addr} {x1 x2 x3 x4 x5 x6 x7 x8 x9 : Value} (h1 : W.cell? p1 = some x1) (h2 : W.cell? p2 = some x2) (h3 : W.cell? p3 = some x3) (h4 : W.cell? p4 = some x4) (h5 : W.cell? p5 = some x5) (h6 : W.cell? p6 = some x6) (h7 : W.cell? p7 = some x7) (h8 : W.cell? p8 = some x8) (h9 : W.cell? p9 = some x9) (hb : Below w.heap.size w W) :
    W.drew.cell? p1 = some x1 ∧ W.drew.cell? p2 = some x2 ∧ W.drew.cell? p3 = some x3 ∧ W.drew.cell? p4 = some x4 ∧ W.drew.cell? p5 = some x5 ∧ W.drew.cell? p6 = some x6 ∧ W.drew.cell? p7 = some x7 ∧ W.drew.cell? p8 = some x8 ∧ W.drew.cell? p9 = some x9 ∧ Below w.heap.size w W.drew := ⟨h1, h2, h3, h4, h5, h6, h7, h8, h9, hb.drew⟩
theorem keep9E {w W w1 : World} {p1 p2 p3 p4 p5 p6 p7 p8 p9 : Addr} {x1 x2 x3 x4 x5 x6 x7 x8 x9 : Value} (l1 : p1.block < w.heap.size) (l2 : p2.block < w.heap.size) (l3 : p3.block < w.heap.size) (l4 : p4.block < w.heap.size) (l5 : p5.block < w.heap.size) (l6 : p6.block < w.heap.size) (l7 : p7.block < w.heap.size) (l8 : p8.block < w.heap.size) (l9 : p9.block < w.heap.size)
    (h1 : W.cell? p1 = some x1) (h2 : W.cell? p2 = some x2) (h3 : W.cell? p3 = some x3) (h4 : W.cell? p4 = some x4) (h5 : W.cell? p5 = some x5) (h6 : W.cell? p6 = some x6) (h7 : W.cell? p7 = some x7) (h8 : W.cell? p8 = some x8) (h9 : W.cell? p9 = some x9) (hb : Below w.heap.size w W) (hb1 : Below W.heap.size W w1) :
    w1.cell? p1 = some x1 ∧ w1.cell? p2 = some x2 ∧ w1.cell? p3 = some x3 ∧ w1.cell? p4 = some x4 ∧ w1.cell? p5 = some x5 ∧ w1.cell? p6 = some x6 ∧ w1.cell? p7 = some x7 ∧ w1.cell? p8 = some x8 ∧ w1.cell? p9 = some x9 ∧ Below w.heap.size w w1 := by
  have k : ∀ {p : Addr} {x : Value}, p.block < w.heap.size → W.cell? p = some x → w1.cell? p = some x := fun hp h => (hb1.cell (Nat.lt_of_lt_of_le hp hb.size)).trans h
  exact ⟨k l1 h1, k l2 h2, k l3 h3, k l4 h4, k l5 h5, k l6 h6, k l7 h7, k l8 h8, k l9 h9, hb.trans (hb1.mono hb.size)⟩
/-- append(points, point) at a plain list of operations. -/
theorem list_app_np {ops : Array Oper} {rest : List Oper} {o : Oper} {a : Act} {w : World} {Q : Exit → Act → World → Prop} (hgd : o.guard = none) (s x : Operand)
    (ho : o.op = .call { callee := .builtin .append, args := #[s, x], argTypes := #[81, 81] })
    (lo hi : Nat) (v : Value) (l : List P2) (p : P2) (hs : a.eval s = v) (hown : OwP lo hi w v l)
    (H : Nat) (hx : a.eval x = .slice (some ⟨H, 0, none⟩) 1 1) (hnew : w.heap[H]? = some (.cells #[.int .i64 p.1, .int .i64 p.2, .int .i64 0] 85 (0, 0)))
    (hn : l.length ≤ 1048576) (hlo : lo ≤ w.heap.size)
    (k : ∀ g cap w', OwP lo w'.heap.size w' (.slice (some ⟨g, 0, none⟩) (l.length + 1) cap) (l ++ [p]) → w.grownBy w' v.ownBlock → wpList Try.prog ops Q rest (a.put o.dst (.slice (some ⟨g, 0, none⟩) (l.length + 1) cap)) w') :
    wpList Try.prog ops Q (o :: rest) a w := by
  obtain ⟨i0, hi', hz0, hz1, hz2⟩ := info_parts info_nums
  refine wpList_append_lies w hgd s x 81 ho lo 85 i0 _ 3 24 Try.underlying81 hi' hz0 hz1 hz2 rfl (by omega) v l.length (l.flatMap encP) hs hown.1 ⟨H, 0, none⟩ 1 1 (encP p) hx rfl (World.news_of_block (cs := #[.int .i64 p.1, .int .i64 p.2, .int .i64 0]) hnew) (encP_one p) (by omega) (by unfold maxLen; omega) (by omega) hlo w.heap.size rfl ?_
  intro g cap w' k1 k2 _ _
  refine k g cap w' ⟨?_, fun b hb => (k1.lt b hb).2⟩ k2
  rw [List.length_append, List.length_singleton, List.flatMap_append]
  simpa using k1
/-- What bendLeft leaves. -/
def MadeP (w : World) (l : List P2) (e : Ending) (w' : World) : Prop := (∃ u, e = .returned u ∧ OwP w.heap.size w'.heap.size w' u l) ∧ Below w.heap.size w w'

end Go.Proofs.Ytjijgagdaolkcaa
/- The program's vectorsOf: the first numbers of each element as new rows. -/
namespace Go.Proofs.Ytjijgagdaolkcaa
open Go Go.RowKit Go.Lib

/-- Three numbers. -/
abbrev T3 := Int × Int × Int
def rowT (t : T3) : List Int := [t.1, t.2.1, t.2.2]
/-- A slice of arrays of three numbers reads as a list of triples. -/
def Rd3 (w : World) (v : Value) (l : List T3) : Prop :=
  ∃ (a : Option Addr) (c : Nat), v = .slice a l.length c ∧ l.length ≤ c ∧ c ≤ maxLen ∧ ∀ (j : Nat) (hj : j < l.length), ∃ b o : Nat, a = some ⟨b, o, none⟩ ∧ b < w.heap.size ∧
    w.cell? ⟨b, o + j * 3, none⟩ = some (.int .i64 l[j].1) ∧ w.cell? ⟨b, o + j * 3 + 1, none⟩ = some (.int .i64 l[j].2.1) ∧ w.cell? ⟨b, o + j * 3 + 2, none⟩ = some (.int .i64 l[j].2.2)
theorem Rd3.below {w w' : World} {v : Value} {l : List T3} (h : Rd3 w v l) (hb : Below w.heap.size w w') : Rd3 w' v l := by
  obtain ⟨a, c, h1, h2, h3, h4⟩ := h
  refine ⟨a, c, h1, h2, h3, fun j hj => ?_⟩
  obtain ⟨b, o, e, hl, k0, k1, k2⟩ := h4 j hj
  exact ⟨b, o, e, Nat.lt_of_lt_of_le hl hb.size, (hb.cell (p := ⟨b, o + j * 3, none⟩) hl).trans k0, (hb.cell (p := ⟨b, o + j * 3 + 1, none⟩) hl).trans k1, (hb.cell (p := ⟨b, o + j * 3 + 2, none⟩) hl).trans k2⟩
theorem owr_made3 {T e : TypeId} {base : Nat} {w : World} {v : Value} {n : Nat} (h : w.ownsRow base T 1 v n (List.replicate n (.slice none 0 0))) : OwR T e base w.heap.size w v (List.replicate n []) := by
  have key : ∀ (i : Nat) (u : Value), (List.replicate n (Value.slice none 0 0))[i]? = some u → u = .slice none 0 0 := fun i u hu => by
    rw [List.getElem?_replicate] at hu
    split at hu
    · exact (Option.some.inj hu).symm
    · cases hu
  refine ⟨List.replicate n (.slice none 0 0), by simp, OwnV.of_owns h, ?_, ?_, ?_⟩
  · intro i u zs hu hz
    have hz2 : zs = [] := by
      rw [List.getElem?_replicate] at hz
      split at hz
      · exact (Option.some.inj hz).symm
      · cases hz
    rw [key i u hu, hz2]
    exact OwnV.nil
  · intro i j u u' b _ hu _ hub
    rw [key i u hu] at hub
    cases hub
  · intro i u b hu hub
    rw [key i u hu] at hub
    cases hub
theorem made_nils3 (n : Nat) : (madeCells #[Value.slice none 0 0] (n * 1)).toList = List.replicate n (.slice none 0 0) := by
  refine List.ext_getElem? fun i => ?_
  unfold madeCells
  rw [Array.getElem?_toList, Array.getElem?_map, List.getElem?_replicate]
  by_cases hi : i < n
  · simp [hi]
    rw [show i % 1 = 0 by omega]
    rfl
  · simp [hi]
/-- The first n numbers of each. -/
def cutT (n : Nat) (l : List T3) : List (List Int) := l.map fun t => (rowT t).take n
/-- The first k are there, the others nil. -/
def fillT (n : Nat) (l : List T3) (k : Nat) : List (List Int) := cutT n (l.take k) ++ List.replicate (l.length - k) []
theorem fillT_zero (n : Nat) (l : List T3) : fillT n l 0 = List.replicate l.length [] := by simp [fillT, cutT]
theorem fillT_all (n : Nat) (l : List T3) : fillT n l l.length = cutT n l := by simp [fillT]
theorem fillT_len (n : Nat) (l : List T3) (k : Nat) (h : k ≤ l.length) : (fillT n l k).length = l.length := by simp [fillT, cutT]; omega
theorem fillT_step (n : Nat) (l : List T3) (k : Nat) (h : k < l.length) : (fillT n l k).set k ((rowT l[k]).take n) = fillT n l (k + 1) := by
  unfold fillT cutT
  rw [List.set_append_right _ _ (by simp; omega), List.length_map, List.length_take, Nat.min_eq_left (by omega), Nat.sub_self]
  rw [show l.length - k = (l.length - (k + 1)) + 1 by omega, List.replicate_succ, List.set_cons_zero, List.take_succ_eq_append_getElem h, List.map_append]
  simp
theorem bk3t {w : World} {b : Nat} {x y z : Value} {T : TypeId} (h : Bk w b #[x, y, z] T) : w.cell? ⟨b, 0, none⟩ = some x ∧ w.cell? ⟨b, 1, none⟩ = some y ∧ w.cell? ⟨b, 2, none⟩ = some z := ⟨h.cell 0 rfl, h.cell 1 rfl, h.cell 2 rfl⟩
theorem sl_cut1 {w : World} {B : Nat} {x y z : Int} {T : TypeId} (hb : Bk w B #[.int .i64 x, .int .i64 y, .int .i64 z] T) : Sl w (.slice (some ⟨B, 0, none⟩) 1 3) (intVals [x]) := by
  obtain ⟨h0, h1, h2⟩ := bk3t hb
  refine .inr ⟨by simp [intVals], B, 0, 3, by simp [intVals], by simp [intVals], by simp [intVals, maxLen], hb.lt, fun i u hi => ?_⟩
  match i, hi with
  | 0, hi => obtain rfl := Option.some.inj hi; exact h0
  | _ + 1, hi => simp [intVals] at hi
set_option maxRecDepth 100000 in
set_option maxHeartbeats 1600000 in
theorem i_vecs1 (l : List T3) (hlen : l.length ≤ 1048576) (v : Value) (w : World) (hv : Rd3 w v l) :
    Calls Try.prog 64 #[v, .int .i64 1] w (MadeR w (cutT 1 l)) := by
  obtain ⟨a, c, rfl, hvc, hvm, hvr⟩ := hv
  have HV := Lib.hid hvr
  unfold maxLen at hvm
  obtain ⟨i0, hi', hz0, hz1, hz2⟩ := info_parts info_row
  clear hvr
  go_enter Try.func64, Try.ntmps64
  go_wp2_with (at_make; refine wpList_make_full _ rfl _ _ 28 rfl w.heap.size 24 i0 _ 1 Try.underlying28 hi' hz0 hz1 .i64 .i64 _ _ l.length rfl rfl rfl rfl (by rw [hz2]; omega) (by unfold maxLen; omega) (by simp) ?_; intro w1 hown hgrow; have hbel : Below w.heap.size w w1 := (Below.refl _ _).grown hgrow (Nat.le_refl _) (fun q hq => by cases hq))
  rw [show (Value.slice none 0 0).cells = #[Value.slice none 0 0] from rfl, made_nils3] at hown
  have O1 := Lib.hid (show OwR 24 3 w.heap.size w1.heap.size w1 (.slice (some ⟨w.heap.size, 0, none⟩) l.length l.length) (fillT 1 l 0) by rw [fillT_zero]; exact owr_made3 hown)
  have B1 := Lib.hid hbel
  clear hown hgrow hbel hi' hz0 hz1 hz2
  go_loopw [13] (fun i wr => ∃ k : Nat, k ≤ l.length ∧ i = .int .i64 k ∧ OwR 24 3 w.heap.size wr.heap.size wr (.slice (some ⟨w.heap.size, 0, none⟩) l.length l.length) (fillT 1 l k) ∧ Below w.heap.size w wr) (fun i _ => l.length - (RowKit.intOf i).toNat)
  case atStart => exact ⟨0, Nat.zero_le _, rfl, O1.out, B1.out⟩
  case round =>
    obtain ⟨k, hk, rfl, ho, hb⟩ := hrel
    have HO := Lib.hid ho
    have HB := Lib.hid hb
    clear ho hb
    by_cases hlt : k < l.length
    · have i1 : (0 : Int) ≤ (k : Int) := by omega
      have i2 : (k : Int) < (l.length : Int) := by omega
      obtain ⟨b, o, rfl, hb2, q0, q1, q2⟩ := HV.out k hlt
      rw [← HB.out.cell (p := ⟨b, o + k * 3, none⟩) hb2] at q0
      rw [← HB.out.cell (p := ⟨b, o + k * 3 + 1, none⟩) hb2] at q1
      rw [← HB.out.cell (p := ⟨b, o + k * 3 + 2, none⟩) hb2] at q2
      have FS := Lib.hid (fillT_step 1 l k hlt)
      have FL := Lib.hid (fillT_len 1 l k hk)
      obtain ⟨x, hx⟩ : ∃ x, l[k] = x := ⟨_, rfl⟩
      rw [hx] at q0 q1 q2 FS
      obtain ⟨x1, x2, x3⟩ := x
      simp only at q0 q1 q2
      rw [show (rowT (x1, x2, x3)).take 1 = [x1] from rfl] at FS
      clear hx
      have KX := Lib.hid (Bk.new wr #[.int .i64 x1, .int .i64 x2, .int .i64 x3] 85)
      have BX := Lib.hid (below1 wr (.cells #[.int .i64 x1, .int .i64 x2, .int .i64 x3] 85))
      have hw : w.heap.size ≤ wr.heap.size := HB.out.size
      go_wp2_with fail
      refine (i_clone [x1] _ 1 3 _ (by simp) (by simp) (sl_cut1 KX.out)).mono ?_
      rintro e w2 ⟨⟨u, rfl, hu⟩, hb2'⟩
      obtain ⟨ga, gc, rfl, _, _⟩ := hu.form (by simp [intVals])
      rw [World.size_alloc] at hu
      have hb3 : Below wr.heap.size wr w2 := BX.out.trans (hb2'.mono BX.out.size)
      have O2 := Lib.hid (OwR.putNew FL.out.symm HO.out hb3 hw k (by rw [FL.out]; exact hlt) (hu.mono (by omega) (Nat.le_refl _)))
      rw [FS.out] at O2
      have B3 := Lib.hid ((HB.out.trans (hb3.mono hw)).setCell (p := ⟨w.heap.size, k, none⟩) (Nat.le_refl _) (.slice (some ⟨ga, 0, none⟩) (intVals [x1]).length gc))
      obtain ⟨b4, u4, e4, _, _, _, hc, hf, _⟩ := (HO.out.below hb3).at k (by rw [FL.out]; exact hlt) rfl
      simp only [Option.some.injEq, Addr.mk.injEq, and_true] at e4
      subst e4
      clear hu hb2' hb3 q0 q1 q2
      go_wp2
      exact ⟨⟨k + 1, by omega, by go_num, O2.out, B3.out⟩, by simp [RowKit.intOf]; omega⟩
    · obtain rfl : k = l.length := by omega
      have h := HO.out
      rw [fillT_all] at h
      have HE := Lib.hid h
      clear h
      go_wp2
      go_ret
      exact ⟨⟨_, rfl, HE.out⟩, HB.out⟩
theorem sl_cut2 {w : World} {B : Nat} {x y z : Int} {T : TypeId} (hb : Bk w B #[.int .i64 x, .int .i64 y, .int .i64 z] T) : Sl w (.slice (some ⟨B, 0, none⟩) 2 3) (intVals [x, y]) := by
  obtain ⟨h0, h1, h2⟩ := bk3t hb
  refine .inr ⟨by simp [intVals], B, 0, 3, by simp [intVals], by simp [intVals], by simp [intVals, maxLen], hb.lt, fun i u hi => ?_⟩
  match i, hi with
  | 0, hi => obtain rfl := Option.some.inj hi; exact h0
  | 1, hi => obtain rfl := Option.some.inj hi; exact h1
  | _ + 2, hi => simp [intVals] at hi
set_option maxRecDepth 100000 in
set_option maxHeartbeats 1600000 in
theorem i_vecs2 (l : List T3) (hlen : l.length ≤ 1048576) (v : Value) (w : World) (hv : Rd3 w v l) :
    Calls Try.prog 64 #[v, .int .i64 2] w (MadeR w (cutT 2 l)) := by
  obtain ⟨a, c, rfl, hvc, hvm, hvr⟩ := hv
  have HV := Lib.hid hvr
  unfold maxLen at hvm
  obtain ⟨i0, hi', hz0, hz1, hz2⟩ := info_parts info_row
  clear hvr
  go_enter Try.func64, Try.ntmps64
  go_wp2_with (at_make; refine wpList_make_full _ rfl _ _ 28 rfl w.heap.size 24 i0 _ 1 Try.underlying28 hi' hz0 hz1 .i64 .i64 _ _ l.length rfl rfl rfl rfl (by rw [hz2]; omega) (by unfold maxLen; omega) (by simp) ?_; intro w1 hown hgrow; have hbel : Below w.heap.size w w1 := (Below.refl _ _).grown hgrow (Nat.le_refl _) (fun q hq => by cases hq))
  rw [show (Value.slice none 0 0).cells = #[Value.slice none 0 0] from rfl, made_nils3] at hown
  have O1 := Lib.hid (show OwR 24 3 w.heap.size w1.heap.size w1 (.slice (some ⟨w.heap.size, 0, none⟩) l.length l.length) (fillT 2 l 0) by rw [fillT_zero]; exact owr_made3 hown)
  have B1 := Lib.hid hbel
  clear hown hgrow hbel hi' hz0 hz1 hz2
  go_loopw [13] (fun i wr => ∃ k : Nat, k ≤ l.length ∧ i = .int .i64 k ∧ OwR 24 3 w.heap.size wr.heap.size wr (.slice (some ⟨w.heap.size, 0, none⟩) l.length l.length) (fillT 2 l k) ∧ Below w.heap.size w wr) (fun i _ => l.length - (RowKit.intOf i).toNat)
  case atStart => exact ⟨0, Nat.zero_le _, rfl, O1.out, B1.out⟩
  case round =>
    obtain ⟨k, hk, rfl, ho, hb⟩ := hrel
    have HO := Lib.hid ho
    have HB := Lib.hid hb
    clear ho hb
    by_cases hlt : k < l.length
    · have i1 : (0 : Int) ≤ (k : Int) := by omega
      have i2 : (k : Int) < (l.length : Int) := by omega
      obtain ⟨b, o, rfl, hb2, q0, q1, q2⟩ := HV.out k hlt
      rw [← HB.out.cell (p := ⟨b, o + k * 3, none⟩) hb2] at q0
      rw [← HB.out.cell (p := ⟨b, o + k * 3 + 1, none⟩) hb2] at q1
      rw [← HB.out.cell (p := ⟨b, o + k * 3 + 2, none⟩) hb2] at q2
      have FS := Lib.hid (fillT_step 2 l k hlt)
      have FL := Lib.hid (fillT_len 2 l k hk)
      obtain ⟨x, hx⟩ : ∃ x, l[k] = x := ⟨_, rfl⟩
      rw [hx] at q0 q1 q2 FS
      obtain ⟨x1, x2, x3⟩ := x
      simp only at q0 q1 q2
      rw [show (rowT (x1, x2, x3)).take 2 = [x1, x2] from rfl] at FS
      clear hx
      have KX := Lib.hid (Bk.new wr #[.int .i64 x1, .int .i64 x2, .int .i64 x3] 85)
      have BX := Lib.hid (below1 wr (.cells #[.int .i64 x1, .int .i64 x2, .int .i64 x3] 85))
      have hw : w.heap.size ≤ wr.heap.size := HB.out.size
      go_wp2_with fail
      refine (i_clone [x1, x2] _ 2 3 _ (by simp) (by simp) (sl_cut2 KX.out)).mono ?_
      rintro e w2 ⟨⟨u, rfl, hu⟩, hb2'⟩
      obtain ⟨ga, gc, rfl, _, _⟩ := hu.form (by simp [intVals])
      rw [World.size_alloc] at hu
      have hb3 : Below wr.heap.size wr w2 := BX.out.trans (hb2'.mono BX.out.size)
      have O2 := Lib.hid (OwR.putNew FL.out.symm HO.out hb3 hw k (by rw [FL.out]; exact hlt) (hu.mono (by omega) (Nat.le_refl _)))
      rw [FS.out] at O2
      have B3 := Lib.hid ((HB.out.trans (hb3.mono hw)).setCell (p := ⟨w.heap.size, k, none⟩) (Nat.le_refl _) (.slice (some ⟨ga, 0, none⟩) (intVals [x1, x2]).length gc))
      obtain ⟨b4, u4, e4, _, _, _, hc, hf, _⟩ := (HO.out.below hb3).at k (by rw [FL.out]; exact hlt) rfl
      simp only [Option.some.injEq, Addr.mk.injEq, and_true] at e4
      subst e4
      clear hu hb2' hb3 q0 q1 q2
      go_wp2
      exact ⟨⟨k + 1, by omega, by go_num, O2.out, B3.out⟩, by simp [RowKit.intOf]; omega⟩
    · obtain rfl : k = l.length := by omega
      have h := HO.out
      rw [fillT_all] at h
      have HE := Lib.hid h
      clear h
      go_wp2
      go_ret
      exact ⟨⟨_, rfl, HE.out⟩, HB.out⟩
theorem sl_cut3 {w : World} {B : Nat} {x y z : Int} {T : TypeId} (hb : Bk w B #[.int .i64 x, .int .i64 y, .int .i64 z] T) : Sl w (.slice (some ⟨B, 0, none⟩) 3 3) (intVals [x, y, z]) := by
  obtain ⟨h0, h1, h2⟩ := bk3t hb
  refine .inr ⟨by simp [intVals], B, 0, 3, by simp [intVals], by simp [intVals], by simp [intVals, maxLen], hb.lt, fun i u hi => ?_⟩
  match i, hi with
  | 0, hi => obtain rfl := Option.some.inj hi; exact h0
  | 1, hi => obtain rfl := Option.some.inj hi; exact h1
  | 2, hi => obtain rfl := Option.some.inj hi; exact h2
  | _ + 3, hi => simp [intVals] at hi
set_option maxRecDepth 100000 in
set_option maxHeartbeats 1600000 in
theorem i_vecs3 (l : List T3) (hlen : l.length ≤ 1048576) (v : Value) (w : World) (hv : Rd3 w v l) :
    Calls Try.prog 64 #[v, .int .i64 3] w (MadeR w (cutT 3 l)) := by
  obtain ⟨a, c, rfl, hvc, hvm, hvr⟩ := hv
  have HV := Lib.hid hvr
  unfold maxLen at hvm
  obtain ⟨i0, hi', hz0, hz1, hz2⟩ := info_parts info_row
  clear hvr
  go_enter Try.func64, Try.ntmps64
  go_wp2_with (at_make; refine wpList_make_full _ rfl _ _ 28 rfl w.heap.size 24 i0 _ 1 Try.underlying28 hi' hz0 hz1 .i64 .i64 _ _ l.length rfl rfl rfl rfl (by rw [hz2]; omega) (by unfold maxLen; omega) (by simp) ?_; intro w1 hown hgrow; have hbel : Below w.heap.size w w1 := (Below.refl _ _).grown hgrow (Nat.le_refl _) (fun q hq => by cases hq))
  rw [show (Value.slice none 0 0).cells = #[Value.slice none 0 0] from rfl, made_nils3] at hown
  have O1 := Lib.hid (show OwR 24 3 w.heap.size w1.heap.size w1 (.slice (some ⟨w.heap.size, 0, none⟩) l.length l.length) (fillT 3 l 0) by rw [fillT_zero]; exact owr_made3 hown)
  have B1 := Lib.hid hbel
  clear hown hgrow hbel hi' hz0 hz1 hz2
  go_loopw [13] (fun i wr => ∃ k : Nat, k ≤ l.length ∧ i = .int .i64 k ∧ OwR 24 3 w.heap.size wr.heap.size wr (.slice (some ⟨w.heap.size, 0, none⟩) l.length l.length) (fillT 3 l k) ∧ Below w.heap.size w wr) (fun i _ => l.length - (RowKit.intOf i).toNat)
  case atStart => exact ⟨0, Nat.zero_le _, rfl, O1.out, B1.out⟩
  case round =>
    obtain ⟨k, hk, rfl, ho, hb⟩ := hrel
    have HO := Lib.hid ho
    have HB := Lib.hid hb
    clear ho hb
    by_cases hlt : k < l.length
    · have i1 : (0 : Int) ≤ (k : Int) := by omega
      have i2 : (k : Int) < (l.length : Int) := by omega
      obtain ⟨b, o, rfl, hb2, q0, q1, q2⟩ := HV.out k hlt
      rw [← HB.out.cell (p := ⟨b, o + k * 3, none⟩) hb2] at q0
      rw [← HB.out.cell (p := ⟨b, o + k * 3 + 1, none⟩) hb2] at q1
      rw [← HB.out.cell (p := ⟨b, o + k * 3 + 2, none⟩) hb2] at q2
      have FS := Lib.hid (fillT_step 3 l k hlt)
      have FL := Lib.hid (fillT_len 3 l k hk)
      obtain ⟨x, hx⟩ : ∃ x, l[k] = x := ⟨_, rfl⟩
      rw [hx] at q0 q1 q2 FS
      obtain ⟨x1, x2, x3⟩ := x
      simp only at q0 q1 q2
      rw [show (rowT (x1, x2, x3)).take 3 = [x1, x2, x3] from rfl] at FS
      clear hx
      have KX := Lib.hid (Bk.new wr #[.int .i64 x1, .int .i64 x2, .int .i64 x3] 85)
      have BX := Lib.hid (below1 wr (.cells #[.int .i64 x1, .int .i64 x2, .int .i64 x3] 85))
      have hw : w.heap.size ≤ wr.heap.size := HB.out.size
      go_wp2_with fail
      refine (i_clone [x1, x2, x3] _ 3 3 _ (by simp) (by simp) (sl_cut3 KX.out)).mono ?_
      rintro e w2 ⟨⟨u, rfl, hu⟩, hb2'⟩
      obtain ⟨ga, gc, rfl, _, _⟩ := hu.form (by simp [intVals])
      rw [World.size_alloc] at hu
      have hb3 : Below wr.heap.size wr w2 := BX.out.trans (hb2'.mono BX.out.size)
      have O2 := Lib.hid (OwR.putNew FL.out.symm HO.out hb3 hw k (by rw [FL.out]; exact hlt) (hu.mono (by omega) (Nat.le_refl _)))
      rw [FS.out] at O2
      have B3 := Lib.hid ((HB.out.trans (hb3.mono hw)).setCell (p := ⟨w.heap.size, k, none⟩) (Nat.le_refl _) (.slice (some ⟨ga, 0, none⟩) (intVals [x1, x2, x3]).length gc))
      obtain ⟨b4, u4, e4, _, _, _, hc, hf, _⟩ := (HO.out.below hb3).at k (by rw [FL.out]; exact hlt) rfl
      simp only [Option.some.injEq, Addr.mk.injEq, and_true] at e4
      subst e4
      clear hu hb2' hb3 q0 q1 q2
      go_wp2
      exact ⟨⟨k + 1, by omega, by go_num, O2.out, B3.out⟩, by simp [RowKit.intOf]; omega⟩
    · obtain rfl : k = l.length := by omega
      have h := HO.out
      rw [fillT_all] at h
      have HE := Lib.hid h
      clear h
      go_wp2
      go_ret
      exact ⟨⟨_, rfl, HE.out⟩, HB.out⟩
end Go.Proofs.Ytjijgagdaolkcaa
/- Slices whose elements hold addresses: how they read; those that the call made itself, each element in a range of blocks of its own. -/
namespace Go.Proofs.Ytjijgagdaolkcaa
open Go Go.RowKit Go.Lib Go.Deep Go.ChangeShapes Go.WideShapes

/-- The k cells of element j. -/
def chunk (k : Nat) (fs : List Value) (j : Nat) : List Value := (fs.drop (j * k)).take k
theorem chunk_get {k : Nat} (fs : List Value) (j i : Nat) (hi : i < k) : (chunk k fs j)[i]? = fs[j * k + i]? := by
  unfold chunk
  rw [List.getElem?_take_of_lt hi, List.getElem?_drop]
theorem chunk_over {k : Nat} (fs : List Value) (j i : Nat) (hi : ¬ i < k) : (chunk k fs j)[i]? = none := by
  unfold chunk
  exact List.getElem?_eq_none (by rw [List.length_take]; omega)
theorem mul_lt_mul_c {j n k i : Nat} (hj : j < n) (hi : i < k) : j * k + i < n * k := by
  have := Nat.mul_le_mul_right k (show j + 1 ≤ n from hj)
  rw [Nat.succ_mul] at this; omega
theorem chunk_len {k : Nat} {fs : List Value} {j n : Nat} (h : fs.length = n * k) (hj : j < n) : (chunk k fs j).length = k := by
  unfold chunk
  have := Nat.mul_le_mul_right k (show j + 1 ≤ n from hj)
  rw [Nat.succ_mul] at this
  rw [List.length_take, List.length_drop]; omega
theorem chunk_ext {k : Nat} {fs gs : List Value} {j : Nat} (h : ∀ i, i < k → fs[j * k + i]? = gs[j * k + i]?) : chunk k fs j = chunk k gs j := by
  refine List.ext_getElem? fun i => ?_
  by_cases hi : i < k
  · rw [chunk_get _ _ _ hi, chunk_get _ _ _ hi]; exact h i hi
  · rw [chunk_over _ _ _ hi, chunk_over _ _ _ hi]
theorem idx_ne {j j' i i' k : Nat} (hi : i < k) (hi' : i' < k) (h : j ≠ j') : j * k + i ≠ j' * k + i' := by
  intro e
  rcases Nat.lt_or_gt_of_ne h with h1 | h1
  · have := Nat.mul_le_mul_right k (show j + 1 ≤ j' from h1)
    rw [Nat.succ_mul] at this; omega
  · have := Nat.mul_le_mul_right k (show j' + 1 ≤ j from h1)
    rw [Nat.succ_mul] at this; omega
theorem chunk_far {k : Nat} (fs : List Value) {j j' i : Nat} (v : Value) (hi : i < k) (h : j' ≠ j) : chunk k (fs.set (j * k + i) v) j' = chunk k fs j' :=
  chunk_ext fun i' hi' => by rw [List.getElem?_set_ne (idx_ne hi hi' (fun e => h e.symm))]
theorem chunk_at {k : Nat} {fs : List Value} {j i n : Nat} (v : Value) (hi : i < k) (hl : fs.length = n * k) (hj : j < n) : chunk k (fs.set (j * k + i) v) j = (chunk k fs j).set i v := by
  have hlt := mul_lt_mul_c hj hi
  refine List.ext_getElem? fun q => ?_
  rw [get_set _ _ _ _ (by rw [chunk_len hl hj]; exact hi)]
  by_cases hq : q < k
  · rw [chunk_get _ _ _ hq, get_set _ _ _ _ (by omega), chunk_get _ _ _ hq]
    by_cases e : q = i
    · rw [if_pos e, if_pos (by omega)]
    · rw [if_neg e, if_neg (by omega)]
  · rw [chunk_over _ _ _ hq, if_neg (by omega), chunk_over _ _ _ hq]
theorem chunk_left {k : Nat} {fs cs : List Value} {j n : Nat} (hl : fs.length = n * k) (hj : j < n) : chunk k (fs ++ cs) j = chunk k fs j :=
  chunk_ext fun i hi => by rw [List.getElem?_append_left (by rw [hl]; exact mul_lt_mul_c hj hi)]
theorem chunk_right {k : Nat} {fs cs : List Value} {n : Nat} (hl : fs.length = n * k) (hc : cs.length = k) : chunk k (fs ++ cs) n = cs := by
  unfold chunk
  rw [← hl, List.drop_left, ← hc, List.take_length]
theorem chunk_made {k n j : Nat} (zs : Array Value) (hz : zs.size = k) (hj : j < n) : chunk k (madeCells zs (n * k)).toList j = zs.toList := by
  have k0 : ∀ i, i < k → (j * k + i) % k = i := fun i hi => by rw [Nat.add_comm, Nat.add_mul_mod_self_right, Nat.mod_eq_of_lt hi]
  refine List.ext_getElem? fun i => ?_
  by_cases hi : i < k
  · rw [chunk_get _ _ _ hi]
    have hlt := mul_lt_mul_c hj hi
    unfold madeCells
    rw [Array.getElem?_toList, Array.getElem?_map]
    simp only [Array.getElem?_range, hlt, ↓reduceIte, Option.map_some]
    rw [hz, k0 i hi, Array.getElem?_toList, Array.getElem?_eq_getElem (by omega), getElem!_pos zs i (by omega)]
  · rw [chunk_over _ _ _ hi, Array.getElem?_toList, Array.getElem?_eq_none (by omega)]

section
variable {α : Type}
/-- The slice v reads as l: R says how k cells read as an element. -/
def RdL (R : World → List Value → α → Prop) (k : Nat) (W : World) (v : Value) (l : List α) : Prop :=
  ∃ (a : Option Addr) (c : Nat), v = .slice a l.length c ∧ l.length ≤ maxLen ∧
    ∀ (i : Nat) (h : i < l.length), ∃ (b off : Nat) (cs : List Value), a = some ⟨b, off, none⟩ ∧ l.length ≤ c ∧ b < W.heap.size ∧ cs.length = k ∧
      (∀ q, q < k → W.cell? ⟨b, off + (i * k + q), none⟩ = cs[q]?) ∧ R W cs l[i]
variable {R : World → List Value → α → Prop} {E : Nat → Nat → World → List Value → α → Prop} {k : Nat}
theorem RdL.below {W W' : World} {v : Value} {l : List α} (hR : ∀ cs x, R W cs x → R W' cs x) (h : RdL R k W v l) (hb : Below W.heap.size W W') : RdL R k W' v l := by
  obtain ⟨a, c, rfl, hm, hx⟩ := h
  refine ⟨a, c, rfl, hm, fun i hi => ?_⟩
  obtain ⟨b, off, cs, h1, h2, h3, h4, h5, h6⟩ := hx i hi
  exact ⟨b, off, cs, h1, h2, Nat.lt_of_lt_of_le h3 hb.size, h4, fun q hq => (hb.cell (p := ⟨b, off + (i * k + q), none⟩) h3).trans (h5 q hq), hR _ _ h6⟩
theorem RdL.shape {W : World} {v : Value} {l : List α} (h : RdL R k W v l) : ∃ (a : Option Addr) (c : Nat), v = .slice a l.length c ∧ l.length ≤ maxLen := by
  obtain ⟨a, c, h1, h2, _⟩ := h
  exact ⟨a, c, h1, h2⟩
theorem RdL.nil {W : World} {a : Option Addr} {c : Nat} : RdL R k W (.slice a 0 c) [] := ⟨a, c, rfl, by simp, fun i hi => by simp at hi⟩
/-- Element i. -/
theorem RdL.at {W : World} {v : Value} {l : List α} (h : RdL R k W v l) (i : Nat) (hi : i < l.length) {a : Option Addr} {n c : Nat} (hv : v = .slice a n c) :
    ∃ (b off : Nat) (cs : List Value), a = some ⟨b, off, none⟩ ∧ l.length ≤ c ∧ b < W.heap.size ∧ cs.length = k ∧ (∀ q, q < k → W.cell? ⟨b, off + (i * k + q), none⟩ = cs[q]?) ∧ R W cs l[i] := by
  obtain ⟨a', c', e, _, hx⟩ := h
  rw [hv] at e
  simp only [Value.slice.injEq] at e
  obtain ⟨rfl, rfl, rfl⟩ := e
  exact hx i hi

/-- What an element's memory shows stays where other blocks change. -/
structure Keeps (E : Nat → Nat → World → List Value → α → Prop) : Prop where
  out : ∀ {lo hi a b : Nat} {w w' : World} {cs : List Value} {x : α}, E lo hi w cs x → Kept a b w w' → (hi ≤ a ∨ b ≤ lo) → E lo hi w' cs x
theorem Keeps.below (K : Keeps E) {lo hi : Nat} {w w' : World} {cs : List Value} {x : α} (h : E lo hi w cs x) (hb : Below w.heap.size w w') : E lo hi w' cs x := K.out h (Kept.of_below (lo := hi) (hi := hi) hb) (.inl (Nat.le_refl _))

/-- The elements l lie at v, in a block of the call's own between lo and hi; element i in the blocks from A i to B i, no two ranges meet, nor do they meet the slice's own block. -/
structure OwLx (E : Nat → Nat → World → List Value → α → Prop) (k : Nat) (T : TypeId) (lo hi : Nat) (w : World) (v : Value) (l : List α) (fs : List Value) (A B : Nat → Nat) : Prop where
  own : w.ownsRow lo T k v l.length fs
  lt : ∀ b, v.ownBlock = some b → b < hi
  elem : ∀ (i : Nat) (h : i < l.length), lo ≤ A i ∧ A i ≤ B i ∧ B i ≤ hi ∧ B i ≤ w.heap.size ∧ E (A i) (B i) w (chunk k fs i) l[i]
  out : ∀ (i : Nat) (b : Nat), i < l.length → v.ownBlock = some b → b < A i ∨ B i ≤ b
  apart : ∀ i j, i < l.length → j < l.length → i ≠ j → B i ≤ A j ∨ B j ≤ A i
def OwL (E : Nat → Nat → World → List Value → α → Prop) (k : Nat) (T : TypeId) (lo hi : Nat) (w : World) (v : Value) (l : List α) : Prop := ∃ fs A B, OwLx E k T lo hi w v l fs A B
variable {T : TypeId} {lo hi : Nat} {w w' : World} {v : Value} {l : List α} {fs : List Value} {A B : Nat → Nat}
theorem OwLx.kept (K : Keeps E) {a b : Nat} (h : OwLx E k T lo hi w v l fs A B) (hk : Kept a b w w') (hd : hi ≤ a ∨ b ≤ lo) : OwLx E k T lo hi w' v l fs A B :=
  ⟨ownsK_kept h.own h.lt hk hd, h.lt, fun i hi' => by obtain ⟨h1, h2, h3, h4, h5⟩ := h.elem i hi'; exact ⟨h1, h2, h3, Nat.le_trans h4 hk.size, K.out h5 hk (by omega)⟩, h.out, h.apart⟩
theorem OwL.kept (K : Keeps E) {a b : Nat} (h : OwL E k T lo hi w v l) (hk : Kept a b w w') (hd : hi ≤ a ∨ b ≤ lo) : OwL E k T lo hi w' v l := by
  obtain ⟨fs, A, B, h⟩ := h
  exact ⟨fs, A, B, h.kept K hk hd⟩
theorem OwL.below (K : Keeps E) (h : OwL E k T lo hi w v l) (hb : Below w.heap.size w w') : OwL E k T lo hi w' v l := h.kept K (Kept.of_below (lo := hi) (hi := hi) hb) (.inl (Nat.le_refl _))
theorem OwLx.mono {lo' hi' : Nat} (h : OwLx E k T lo hi w v l fs A B) (h1 : lo' ≤ lo) (h2 : hi ≤ hi') : OwLx E k T lo' hi' w v l fs A B :=
  ⟨Go.Joins.ownsRow_le h.own h1, fun b hb => Nat.lt_of_lt_of_le (h.lt b hb) h2, fun i hi' => by obtain ⟨h3, h4, h5, h6, h7⟩ := h.elem i hi'; exact ⟨by omega, h4, by omega, h6, h7⟩, h.out, h.apart⟩
theorem OwL.mono {lo' hi' : Nat} (h : OwL E k T lo hi w v l) (h1 : lo' ≤ lo) (h2 : hi ≤ hi') : OwL E k T lo' hi' w v l := by
  obtain ⟨fs, A, B, h⟩ := h
  exact ⟨fs, A, B, h.mono h1 h2⟩
theorem OwL.nil : OwL E k T lo hi w (.slice none 0 0) ([] : List α) := ⟨[], fun _ => lo, fun _ => lo, ⟨World.ownsRow_nil _ _ _ _, fun b hb => (by cases hb), fun i hi' => absurd hi' (Nat.not_lt_zero _), fun i b hi' => absurd hi' (Nat.not_lt_zero _), fun i j hi' => absurd hi' (Nat.not_lt_zero _)⟩⟩
theorem OwL.shape (h : OwL E k T lo hi w v l) : ∃ (a : Option Addr) (c : Nat), v = .slice a l.length c ∧ l.length ≤ c ∧ c ≤ maxLen := by
  obtain ⟨fs, A, B, h⟩ := h
  exact owns_slice h.own
theorem OwLx.len (h : OwLx E k T lo hi w v l fs A B) : fs.length = l.length * k := h.own.1
/-- The slice's address, its cells. -/
theorem OwLx.at (h : OwLx E k T lo hi w v l fs A B) (j : Nat) (hj : j < l.length) {a : Option Addr} {n c : Nat} (hv : v = .slice a n c) :
    ∃ b : Nat, a = some ⟨b, 0, none⟩ ∧ n = l.length ∧ lo ≤ b ∧ b < hi ∧ b < w.heap.size ∧ l.length ≤ c ∧ v.ownBlock = some b ∧ (∀ i, i < k → w.cell? ⟨b, j * k + i, none⟩ = (chunk k fs j)[i]?) ∧ ∀ i, w.frozen? ⟨b, i, none⟩ = false := by
  obtain ⟨g, cap, e1⟩ := Go.Joins.ownsRow_form h.own (by omega)
  have hlt := h.own.lt g (by rw [e1]; rfl)
  have hg := h.lt g (by rw [e1]; rfl)
  have hc : l.length ≤ cap := by
    obtain ⟨a', c', e2, h2, _⟩ := owns_slice h.own
    rw [e1] at e2
    simp only [Value.slice.injEq] at e2
    omega
  have k2 := h.own
  rw [hv] at e1
  simp only [Value.slice.injEq] at e1
  obtain ⟨rfl, rfl, rfl⟩ := e1
  rw [hv] at k2
  refine ⟨g, rfl, rfl, hlt.1, hg, hlt.2, hc, by rw [hv]; rfl, fun i hi' => ?_, fun i => k2.frozenAt i⟩
  rw [k2.cellAt _ (mul_lt_mul_c hj hi'), chunk_get _ _ _ hi']
theorem OwL.rd (hER : ∀ lo hi cs x, E lo hi w cs x → R w cs x) (h : OwL E k T lo hi w v l) : RdL R k w v l := by
  obtain ⟨a, c, hv, h1, h2⟩ := h.shape
  obtain ⟨fs, A, B, h⟩ := h
  refine ⟨a, c, hv, by omega, fun i hi' => ?_⟩
  obtain ⟨b, rfl, _, _, _, hb, hc, _, hcell, _⟩ := h.at i hi' hv
  exact ⟨b, 0, chunk k fs i, rfl, hc, hb, chunk_len h.len hi', fun q hq => by rw [Nat.zero_add]; exact hcell q hq, hER _ _ _ _ (h.elem i hi').2.2.2.2⟩
/-- A block just made. -/
theorem OwL.zeros {base b n : Nat} {zs : Array Value} {z : α} (hz : zs.size = k) (hown : w.ownsRow base T k (.slice (some ⟨b, 0, none⟩) n n) n (madeCells zs (n * k)).toList) (hlo : lo ≤ base) (hhi : b < hi) (hE : E lo lo w zs.toList z) : OwL E k T lo hi w (.slice (some ⟨b, 0, none⟩) n n) (List.replicate n z) := by
  have hb := hown.lt b rfl
  refine ⟨_, fun _ => lo, fun _ => lo, by rw [List.length_replicate]; exact Go.Joins.ownsRow_le hown hlo, fun x hx => (show b = x by simpa [Value.ownBlock] using hx) ▸ hhi, ?_, ?_, fun i j _ _ _ => .inl (Nat.le_refl _)⟩
  · intro i hi'
    rw [List.length_replicate] at hi'
    rw [List.getElem_replicate]
    refine ⟨Nat.le_refl _, Nat.le_refl _, by omega, by omega, ?_⟩
    rw [chunk_made zs hz hi']
    exact hE
  · intro i x hi' hx
    obtain rfl : b = x := by simpa [Value.ownBlock] using hx
    exact .inr (by omega)
/-- Another element in place j, in memory made just now: the block's cells take it. -/
theorem OwLx.store {m g c q : Nat} {w1 W : World} (K : Keeps E) {n : Nat} (h : OwLx E k T lo m w (.slice (some ⟨g, 0, none⟩) n c) l fs A B) (hb : Below w.heap.size w w1) (hm : m ≤ w.heap.size) (hlo : lo ≤ w.heap.size) (hhi : w1.heap.size ≤ hi)
    {j : Nat} (hj : j < l.length) {x : α} {cs fs' : List Value} (hx : E w.heap.size w1.heap.size w1 cs x) (hW : Kept g (g + 1) w1 W) (hq : q = l.length)
    (hst : w1.ownsRow lo T k (.slice (some ⟨g, 0, none⟩) n c) q fs → W.ownsRow lo T k (.slice (some ⟨g, 0, none⟩) n c) q fs') (hsz : W.heap.size = w1.heap.size)
    (h0 : chunk k fs' j = cs) (h1 : ∀ i, i ≠ j → chunk k fs' i = chunk k fs i) :
    OwLx E k T lo hi W (.slice (some ⟨g, 0, none⟩) n c) (l.set j x) fs' (fun i => if i = j then w.heap.size else A i) (fun i => if i = j then w1.heap.size else B i) := by
  have hgm := h.lt g rfl
  have hs := hb.size
  have hk1 := h.kept K (Kept.of_below (lo := m) (hi := m) hb) (.inl (Nat.le_refl _))
  refine ⟨?_, fun b hb' => ?_, ?_, ?_, ?_⟩
  · rw [List.length_set]; have := hst (by rw [hq]; exact hk1.own); rw [← hq]; exact this
  · have := h.lt b hb'; omega
  · intro i hi'
    rw [List.length_set] at hi'
    by_cases e : i = j
    · subst e
      simp only [if_true, List.getElem_set_self, h0]
      exact ⟨hlo, hs, hhi, by omega, K.out hx hW (.inr (by omega))⟩
    · simp only [if_neg e, List.getElem_set_ne (fun e' => e e'.symm), h1 i e]
      obtain ⟨k1, k2, k3, k4, k5⟩ := hk1.elem i hi'
      have ho := h.out i g hi' rfl
      exact ⟨k1, k2, by omega, by omega, K.out k5 hW (by omega)⟩
  · intro i b hi' hb'
    rw [List.length_set] at hi'
    have hlt := h.lt b hb'
    by_cases e : i = j
    · simp only [if_pos e]; exact .inl (by omega)
    · simp only [if_neg e]; exact h.out i b hi' hb'
  · intro i i' hi1 hi2 hne
    rw [List.length_set] at hi1 hi2
    by_cases e : i = j
    · have e' : i' ≠ j := fun e2 => hne (by omega)
      have := (h.elem i' hi2).2.2.1
      simp only [if_pos e, if_neg e']; exact .inr (by omega)
    · by_cases e' : i' = j
      · have := (h.elem i hi1).2.2.1
        simp only [if_neg e, if_pos e']; exact .inl (by omega)
      · simp only [if_neg e, if_neg e']; exact h.apart i i' hi1 hi2 hne
/-- A step inside the memory of element j alone. -/
theorem OwLx.inside (K : Keeps E) (h : OwLx E k T lo hi w v l fs A B) {j : Nat} (hj : j < l.length) {x : α} (hk : Kept (A j) (B j) w w') (hx : E (A j) (B j) w' (chunk k fs j) x) : OwLx E k T lo hi w' v (l.set j x) fs A B := by
  refine ⟨?_, h.lt, ?_, ?_, ?_⟩
  · rw [List.length_set]
    obtain ⟨h1, h2⟩ := h.own
    refine ⟨h1, ?_⟩
    rcases h2 with h2 | ⟨g, cap, cur, rfl, hg, hh, hr⟩
    · exact .inl h2
    · have := h.out j g hj rfl
      exact .inr ⟨g, cap, cur, rfl, hg, by rw [hk.block g (lt_of_heap hh) (by omega)]; exact hh, hr⟩
  · intro i hi'
    rw [List.length_set] at hi'
    obtain ⟨k1, k2, k3, k4, k5⟩ := h.elem i hi'
    by_cases e : i = j
    · subst e
      rw [List.getElem_set_self]
      exact ⟨k1, k2, k3, Nat.le_trans k4 hk.size, hx⟩
    · rw [List.getElem_set_ne (fun e' => e e'.symm)]
      have := h.apart i j hi' hj e
      exact ⟨k1, k2, k3, Nat.le_trans k4 hk.size, K.out k5 hk (by omega)⟩
  · intro i b hi' hb'; rw [List.length_set] at hi'; exact h.out i b hi' hb'
  · intro i i' hi1 hi2 hne; rw [List.length_set] at hi1 hi2; exact h.apart i i' hi1 hi2 hne
/-- One cell of element j is stored. -/
theorem OwLx.poke (K : Keeps E) {g n c : Nat} (h : OwLx E k T lo hi w (.slice (some ⟨g, 0, none⟩) n c) l fs A B) {j i : Nat} (hj : j < l.length) (hi' : i < k) (u : Value) {x : α} (hx : E (A j) (B j) w ((chunk k fs j).set i u) x) :
    OwLx E k T lo hi (w.setCell ⟨g, j * k + i, none⟩ u) (.slice (some ⟨g, 0, none⟩) n c) (l.set j x) (fs.set (j * k + i) u) A B := by
  have hkept : Kept g (g + 1) w (w.setCell ⟨g, j * k + i, none⟩ u) := (Kept.refl g (g + 1) w).setCell (p := ⟨g, j * k + i, none⟩) (Nat.le_refl _) (Nat.lt_succ_self _) u
  obtain ⟨g', cap, e1⟩ := Go.Joins.ownsRow_form h.own (by omega)
  simp only [Value.slice.injEq, Option.some.injEq, Addr.mk.injEq] at e1
  obtain ⟨⟨rfl, _, _⟩, rfl, rfl⟩ := e1
  have hst := (h.own.stored (j * k + i) u).1
  refine ⟨by rw [List.length_set]; exact hst, h.lt, ?_, ?_, ?_⟩
  · intro q hq
    rw [List.length_set] at hq
    obtain ⟨k1, k2, k3, k4, k5⟩ := h.elem q hq
    have ho := h.out q g hq rfl
    refine ⟨k1, k2, k3, by simpa [World.setCell] using k4, ?_⟩
    by_cases e : q = j
    · subst e
      rw [List.getElem_set_self, chunk_at u hi' h.len hj]
      exact K.out hx hkept (by omega)
    · rw [List.getElem_set_ne (fun e' => e e'.symm), chunk_far _ _ hi' e]
      exact K.out k5 hkept (by omega)
  · intro q b hq hb'; rw [List.length_set] at hq; exact h.out q b hq hb'
  · intro q q' hi1 hi2 hne; rw [List.length_set] at hi1 hi2; exact h.apart q q' hi1 hi2 hne
/-- An element is put behind the others. -/
theorem OwLx.snoc (K : Keeps E) {m : Nat} {v' : Value} (h : OwLx E k T lo m w v l fs A B) (hlm : lo ≤ m) {a b : Nat} {cs : List Value} {x : α} (hc : cs.length = k) (hx : E a b w cs x) (ha : m ≤ a) (hab : a ≤ b) (hbs : b ≤ w.heap.size)
    (hr : w'.ownsRow lo T k v' (l.length + 1) (fs ++ cs)) (hg : w.grownBy w' v.ownBlock) (hat : ∀ b, v'.ownBlock = some b → v.ownBlock = some b ∨ w.heap.size ≤ b) : OwLx E k T lo w'.heap.size w' v' (l ++ [x]) (fs ++ cs) (fun i => if i < l.length then A i else a) (fun i => if i < l.length then B i else b) := by
  have hkd : ∀ {p q : Nat} {ds : List Value} {y : α}, E p q w ds y → (∀ g, v.ownBlock = some g → g < p ∨ q ≤ g) → q ≤ w.heap.size → E p q w' ds y := by
    intro p q ds y hy ho hq
    cases hv : v.ownBlock with
    | none =>
      rw [hv] at hg
      exact K.below hy ⟨hg.os, hg.tape, hg.output, hg.size, fun i hi' => hg.block i hi' (fun e => by cases e)⟩
    | some g =>
      rw [hv] at hg
      exact K.out hy (a := g) (b := g + 1) ⟨hg.os, hg.tape, hg.output, hg.size, fun i hi' hne => hg.block i hi' (fun e => by have := Option.some.inj e; omega)⟩ (by have := ho g hv; omega)
  have hvm : ∀ g, v.ownBlock = some g → g < m := h.lt
  refine ⟨by rw [List.length_append]; exact hr, fun g hg' => (hr.lt g hg').2, ?_, ?_, ?_⟩
  · intro i hi'
    rw [List.length_append, List.length_singleton] at hi'
    by_cases e : i < l.length
    · obtain ⟨k1, k2, k3, k4, k5⟩ := h.elem i e
      simp only [if_pos e]
      rw [List.getElem_append_left e, chunk_left h.len e]
      exact ⟨k1, k2, Nat.le_trans k4 hg.size, Nat.le_trans k4 hg.size, hkd k5 (fun g hg' => h.out i g e hg') k4⟩
    · obtain rfl : i = l.length := by omega
      simp only [if_neg e]
      rw [List.getElem_append_right (Nat.le_refl _), chunk_right h.len hc]
      simp only [Nat.sub_self, List.getElem_cons_zero]
      exact ⟨by omega, hab, Nat.le_trans hbs hg.size, Nat.le_trans hbs hg.size, hkd hx (fun g hg' => .inl (by have := hvm g hg'; omega)) hbs⟩
  · intro i g hi' hg'
    rw [List.length_append, List.length_singleton] at hi'
    by_cases e : i < l.length
    · simp only [if_pos e]
      have k4 := (h.elem i e).2.2.2.1
      rcases hat g hg' with h1 | h1
      · exact h.out i g e h1
      · exact .inr (by omega)
    · simp only [if_neg e]
      rcases hat g hg' with h1 | h1
      · have := hvm g h1; exact .inl (by omega)
      · exact .inr (by omega)
  · intro i j hi' hj' hne
    rw [List.length_append, List.length_singleton] at hi' hj'
    by_cases e : i < l.length
    · by_cases e' : j < l.length
      · simp only [if_pos e, if_pos e']; exact h.apart i j e e' hne
      · have := (h.elem i e).2.2.1
        simp only [if_pos e, if_neg e']; exact .inl (by omega)
    · by_cases e' : j < l.length
      · have := (h.elem j e').2.2.1
        simp only [if_neg e, if_pos e']; exact .inr (by omega)
      · omega
end

section
variable {H : Type} {enc : TypeId × Value → H} {P : Program} {α : Type} {R : World → List Value → α → Prop} {k : Nat}
/-- What came in as a slice of such elements. -/
theorem rdl_came [Inhabited α] {W : World} {base : Nat} {sp : Nat → Bool} {held : Bool} {t e : TypeId} {fuel : Nat} {v : Value} {x : DataW H × List MemPlace} {Q : α → Prop} (k0 : 0 < k)
    (ht : P.underlying t = some (.slice e)) (ce : P.cellsOf e = k) (h : DataW.trod enc P W base sp held fuel t [v] = some x)
    (hel : ∀ (n : Nat) (cs : List Value) (y : DataW H × List MemPlace), cs.length = k → DataW.trod enc P W base sp held n e cs = some y → ∃ z, R W cs z ∧ Q z) :
    ∃ l : List α, RdL R k W v l ∧ ∀ z ∈ l, Q z := by
  rcases open_slice ht h with ⟨hcs, _⟩ | ⟨a, len, cap, m, n, D, Pl, hcs, hb, hl, hm, hmm, _, hx⟩
  · simp only [List.cons.injEq, and_true] at hcs
    subst hcs
    exact ⟨[], RdL.nil, by simp⟩
  · simp only [List.cons.injEq, and_true] at hcs
    subst hcs
    have hle : len ≤ m := by rw [hmm]; split <;> omega
    have each : ∀ i, i < len → ∃ z : α × List Value, z.2.length = k ∧ (∀ q, q < k → W.cell? (a.add (i * k + q)) = z.2[q]?) ∧ R W z.2 z.1 ∧ Q z.1 := by
      intro i hi
      obtain ⟨cs, h1, h2⟩ := hx i (by omega)
      rw [ce] at h1
      obtain ⟨_, hlen, hcell⟩ := World.cells?_some h1
      obtain ⟨z, h3, h4⟩ := hel _ _ _ hlen h2
      exact ⟨(z, cs), hlen, fun q hq => by rw [← hcell q hq, Go.Deep.add_add], h3, h4⟩
    obtain ⟨Z, hZ⟩ := choose_lt each
    refine ⟨(List.range len).map fun i => (Z i).1, ⟨some a, cap, by simp, by simp; omega, ?_⟩, ?_⟩
    · intro i hi
      simp only [List.length_map, List.length_range] at hi ⊢
      rw [List.getElem_map, List.getElem_range]
      obtain ⟨g0, g1, g2, _⟩ := hZ i hi
      have h00 := (hZ 0 (by omega)).2.1 0 k0
      rw [List.getElem?_eq_getElem (by have := (hZ 0 (by omega)).1; omega)] at h00
      have hsp := cell_spot h00
      have hlt := cell_block_lt h00
      obtain ⟨b, off, sp'⟩ := a
      have hs0 : sp' = none := by simpa [Addr.add] using hsp
      subst hs0
      refine ⟨b, off, (Z i).2, rfl, hl, by simpa [Addr.add] using hlt, g0, fun q hq => ?_, g2⟩
      have := g1 q hq
      simp only [Addr.add] at this
      by_cases h0 : i * k + q = 0
      · rw [h0] at this ⊢; simpa using this
      · rw [if_neg h0] at this; exact this
    · intro z hz
      obtain ⟨i, hi, rfl⟩ := List.mem_map.1 hz
      exact (hZ i (by simpa using hi)).2.2.2
end
/-- append(list, x) at a plain list of operations: k cells in a block made for it. -/
theorem list_app_ow {α : Type} {E : Nat → Nat → World → List Value → α → Prop} (K : Keeps E) {k bytes : Nat} {T TT : TypeId} {P : Program} {ops : Array Oper} {rest : List Oper} {o : Oper} {a : Act} {w : World} {Q : Exit → Act → World → Prop} (hgd : o.guard = none) (s x : Operand)
    (ho : o.op = .call { callee := .builtin .append, args := #[s, x], argTypes := #[TT, TT] }) (hT : P.underlying TT = some (.slice T)) {i0 : TypeInfo} {z : Value} (hi : P.info? T = some i0) (hz0 : i0.zero = some z) (hz1 : i0.size = k) (hz2 : i0.bytes = bytes) (hzs : z.cells.size = k) (k0 : 0 < k)
    (lo m : Nat) (v : Value) (l : List α) (y : α) (cs : List Value) (p q : Nat) (hv : a.eval s = v) (hown : OwL E k T lo m w v l) (hc : cs.length = k) (hone : ∀ u ∈ cs, u.oneCell' = true) (hy : E p q w cs y) (hmp : m ≤ p) (hpq : p ≤ q) (hq : q ≤ w.heap.size)
    (H : Nat) (hx : a.eval x = .slice (some ⟨H, 0, none⟩) 1 1) (hnew : w.heap[H]? = some (.cells cs.toArray T (0, 0)))
    (hn : (l.length + 1) * bytes ≤ 140737488355328) (hn2 : l.length < maxLen) (hlm : lo ≤ m) (hm : m ≤ w.heap.size)
    (kk : ∀ g cap w', OwL E k T lo w'.heap.size w' (.slice (some ⟨g, 0, none⟩) (l.length + 1) cap) (l ++ [y]) → Below lo w w' → (v.ownBlock = some g ∨ w.heap.size ≤ g) → w.grownBy w' v.ownBlock → wpList P ops Q rest (a.put o.dst (.slice (some ⟨g, 0, none⟩) (l.length + 1) cap)) w') :
    wpList P ops Q (o :: rest) a w := by
  obtain ⟨fs, A, B, hown⟩ := hown
  refine wpList_append_lies w hgd s x TT ho lo T i0 z k bytes hT hi hz0 hz1 hz2 hzs k0 v l.length fs hv hown.own ⟨H, 0, none⟩ 1 1 cs hx (by omega) (by have := World.news_of_block (cs := cs.toArray) hnew; simpa using this) hone (by omega) (by omega) hn (by omega) w.heap.size rfl ?_
  intro g cap w' k1 k2 k3 k4
  refine kk g cap w' ⟨_, _, _, hown.snoc K hlm hc hy hmp hpq hq k1 k2 ?_⟩ ((Below.refl lo w).grown k2 (by omega) ?_) (k3.elim (fun h => .inl h) (fun h => .inr (by omega))) k2
  · intro b hb
    have hgb : g = b := by simpa [Value.ownBlock] using hb
    subst hgb
    rcases k3 with h | h
    · exact .inl h
    · exact .inr (by omega)
  · intro b hb
    exact (hown.own.lt b hb).1
end Go.Proofs.Ytjijgagdaolkcaa
/- The model's copies of rows. -/
namespace Go.Proofs.Ytjijgagdaolkcaa
open Go.RowKit Go.Lib

theorem OwR.place0 {T e : TypeId} {lo hi : Nat} {w : World} {v : Value} {zss : List (List Int)} (h : OwR T e lo hi w v zss) {b : Nat} (hb : v.ownBlock = some b) : lo ≤ b := by
  obtain ⟨vs, _, h2, _⟩ := h
  exact (h2.place hb).1
theorem owr_none0 {T e : TypeId} {base : Nat} {w : World} {v : Value} (h : w.ownsRow base T 1 v 0 []) : OwR T e base w.heap.size w v [] :=
  ⟨[], rfl, OwnV.of_owns h, fun i u zs hu => by simp at hu, fun i j u u' b _ hu => by simp at hu, fun i u b hu => by simp at hu⟩
set_option maxRecDepth 100000 in
set_option maxHeartbeats 1600000 in
theorem s_copy (l : List (List Int)) (v : Value) (w : World) (hv : Rw w v l) (hn : l.length ≤ 1048576) (hr : ∀ r ∈ l, r.length ≤ 1048576) :
    Calls Try.prog 87 #[v] w (MadeR w l) := by
  obtain ⟨a, c, rfl, hm, hopen⟩ := hv.shape
  unfold maxLen at hm
  have HO := Lib.hid hopen
  have HR := Lib.hid hr
  obtain ⟨i1, hi', hy0, hy1, hy2⟩ := info_parts info_int'
  have HJ := Lib.hid (And.intro hi' (And.intro hy0 (And.intro hy1 hy2)))
  clear hopen hv hr hi' hy0 hy1 hy2
  go_enter Try.func87, Try.ntmps87
  go_wp2
  go_loopw [3, 4] (fun o i wr => ∃ k : Nat, k ≤ l.length ∧ i = .int .i64 k ∧ OwR 24 3 w.heap.size wr.heap.size wr o (l.take k) ∧ Below w.heap.size w wr) (fun _ i _ => l.length - (RowKit.intOf i).toNat)
  case atStart => exact ⟨0, Nat.zero_le _, rfl, owr_none0 (owns_none (Nat.le_refl _)), below1 _ _⟩
  case round =>
    obtain ⟨k, hk, rfl, ho, hb⟩ := hrel
    rename World => wr
    have HK := Lib.hid ho
    have HB := Lib.hid hb
    obtain ⟨oa, oc, rfl, hom, _⟩ := ho.rw.shape
    have hlk : (l.take k).length = k := by rw [List.length_take]; omega
    rw [hlk] at HK ⊢
    have HLK := Lib.hid hlk
    clear ho hb hlk hom
    by_cases hlt : k < l.length
    · have i1' : (0 : Int) ≤ (k : Int) := by omega
      have i2 : (k : Int) < (l.length : Int) := by omega
      obtain ⟨b, off, u, rfl, hc, hlt2, hcell, hsu⟩ := HO.out k _ (List.getElem?_eq_getElem hlt)
      have hcell2 := (HB.out.cell (p := ⟨b, off + k, none⟩) hlt2).trans hcell
      have hsu2 := hsu.below HB.out
      have hrl := HR.out l[k] (List.getElem_mem hlt)
      obtain ⟨x, hx⟩ : ∃ x, l[k] = x := ⟨_, rfl⟩
      rw [hx] at hsu2 hrl hsu
      have HX := Lib.hid hx
      obtain ⟨ua, uc, rfl, _, _⟩ := hsu2.shape
      rw [intVals_len] at hsu2 hcell2
      have hbz := below1 wr (.cells #[] 3)
      have hcell3 := (hbz.cell (p := ⟨b, off + k, none⟩) (Nat.lt_of_lt_of_le hlt2 HB.out.size)).trans hcell2
      have HS := Lib.hid (hsu2.below hbz)
      clear hsu hsu2 hcell hcell2 hbz hx
      have hw : w.heap.size ≤ wr.heap.size := HB.out.size
      go_wp2_with (first
        | (at_builtin; refine list_appG rfl _ _ 24 rfl wr.heap.size 3 i1 _ 1 8 Try.underlying24 HJ.out.1 HJ.out.2.1 HJ.out.2.2.1 HJ.out.2.2.2 rfl (by omega) (.slice (some ⟨wr.heap.size, 0, none⟩) 0 0) 0 [] rfl (owns_none (Nat.le_refl _)) _ x.length _ (intVals x) rfl HS.out.news.1 HS.out.news.2 (by intro q hq; obtain ⟨z, _, rfl⟩ := List.mem_map.1 hq; rfl) (by omega) (by omega) (by simp) ?_; intro a8 c8 w8 ho8 hg8 hat8; have B8 := Lib.hid (show Below wr.heap.size wr w8 from (below1 wr (.cells #[] 3)).trans (show Below wr.heap.size _ w8 from (Below.refl _ _).grown hg8 (by simp) (fun q hq => by simp [Value.ownBlock] at hq; omega))); have HU8 := Lib.hid (show OwnV 3 wr.heap.size w8.heap.size w8 (.slice a8 (0 + x.length) c8) (intVals x) from OwnV.of_owns (by simpa using ho8)); clear ho8 hg8 hat8; rw [Nat.zero_add] at *)
        | (at_builtin; go_must (refine list_app_row rfl _ _ rfl w.heap.size wr.heap.size _ _ (l.take k) x rfl (HK.out.below (B8.out.trans ((below1 w8 _).mono B8.out.size))) ((HU8.out.below (below1 w8 _)).mono (Nat.le_refl _) (below1 w8 _).size) _ rfl (heap_alloc_new w8 _) (by have := HLK.out; omega) hw (Nat.le_trans B8.out.size (below1 w8 _).size) ?_; intro g9 c9 w9 ho9 hb9)))
      have HO9 := Lib.hid ho9
      have B9 := Lib.hid ((HB.out.trans (B8.out.mono hw)).trans (((below1 w8 _).mono (Nat.le_trans hw B8.out.size)).trans hb9))
      clear ho9 hb9
      go_wp2
      refine ⟨⟨k + 1, by omega, by go_num, ?_, B9.out⟩, by simp [RowKit.intOf]; omega⟩
      have h := HO9.out
      rw [List.take_succ_eq_append_getElem hlt, HX.out]
      simpa [HLK.out] using h
    · obtain rfl : k = l.length := by omega
      have h := HK.out
      rw [List.take_length] at h
      have HE := Lib.hid h
      clear h
      go_wp2
      go_ret
      exact ⟨⟨_, rfl, HE.out⟩, HB.out⟩
end Go.Proofs.Ytjijgagdaolkcaa
