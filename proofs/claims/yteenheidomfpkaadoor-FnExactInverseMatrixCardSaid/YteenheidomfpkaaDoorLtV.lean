/- The program's vectorsOf: the first numbers of each element as new rows. -/
import Derived.Test.YteenheidomfpkaaDoorPgA
import Derived.Test.YteenheidomfpkaaDoorBk
import Derived.Test.YteenheidomfpkaaDoorRowApp
namespace Go.Proofs.YteenheidomfpkaaDoor
open Go Go.RowKit Go.Lib

/-- Three numbers. -/
abbrev T3 := Int × Int × Int
def rowT (t : T3) : List Int := [t.1, t.2.1, t.2.2]
/-- A slice of arrays of three numbers reads as a list of triples. -/
def Rd3 (w : World) (v : Value) (l : List T3) : Prop :=
  ∃ (a : Option Addr) (c : Nat), v = .slice a l.length c ∧ l.length ≤ c ∧ c ≤ maxLen ∧ ∀ (j : Nat) (hj : j < l.length), ∃ b o : Nat, a = some ⟨b, o, none⟩ ∧ b < w.heap.size ∧
    w.cell? ⟨b, o + j * 3, none⟩ = some (.int .i64 l[j].1) ∧ w.cell? ⟨b, o + j * 3 + 1, none⟩ = some (.int .i64 l[j].2.1) ∧ w.cell? ⟨b, o + j * 3 + 2, none⟩ = some (.int .i64 l[j].2.2)
theorem Rd3.below {w w' : World} {v : Value} {l : List T3} (h : Rd3 w v l) (hb : Below w.heap.size w w') : Rd3 w' v l := by
  obtain ⟨a, c, h1, h2, h3, h4⟩ := h
  refine ⟨a, c, h1, h2, h3, fun j hj => ?_⟩
  obtain ⟨b, o, e, hl, k0, k1, k2⟩ := h4 j hj
  exact ⟨b, o, e, Nat.lt_of_lt_of_le hl hb.size, (hb.cell (p := ⟨b, o + j * 3, none⟩) hl).trans k0, (hb.cell (p := ⟨b, o + j * 3 + 1, none⟩) hl).trans k1, (hb.cell (p := ⟨b, o + j * 3 + 2, none⟩) hl).trans k2⟩
theorem owr_made3 {T e : TypeId} {base : Nat} {w : World} {v : Value} {n : Nat} (h : w.ownsRow base T 1 v n (List.replicate n (.slice none 0 0))) : OwR T e base w.heap.size w v (List.replicate n []) := by
  have key : ∀ (i : Nat) (u : Value), (List.replicate n (Value.slice none 0 0))[i]? = some u → u = .slice none 0 0 := fun i u hu => by
    rw [List.getElem?_replicate] at hu
    split at hu
    · exact (Option.some.inj hu).symm
    · cases hu
  refine ⟨List.replicate n (.slice none 0 0), by simp, OwnV.of_owns h, ?_, ?_, ?_⟩
  · intro i u zs hu hz
    have hz2 : zs = [] := by
      rw [List.getElem?_replicate] at hz
      split at hz
      · exact (Option.some.inj hz).symm
      · cases hz
    rw [key i u hu, hz2]
    exact OwnV.nil
  · intro i j u u' b _ hu _ hub
    rw [key i u hu] at hub
    cases hub
  · intro i u b hu hub
    rw [key i u hu] at hub
    cases hub
theorem made_nils3 (n : Nat) : (madeCells #[Value.slice none 0 0] (n * 1)).toList = List.replicate n (.slice none 0 0) := by
  refine List.ext_getElem? fun i => ?_
  unfold madeCells
  rw [Array.getElem?_toList, Array.getElem?_map, List.getElem?_replicate]
  by_cases hi : i < n
  · simp [hi]
    rw [show i % 1 = 0 by omega]
    rfl
  · simp [hi]
/-- The first n numbers of each. -/
def cutT (n : Nat) (l : List T3) : List (List Int) := l.map fun t => (rowT t).take n
/-- The first k are there, the others nil. -/
def fillT (n : Nat) (l : List T3) (k : Nat) : List (List Int) := cutT n (l.take k) ++ List.replicate (l.length - k) []
theorem fillT_zero (n : Nat) (l : List T3) : fillT n l 0 = List.replicate l.length [] := by simp [fillT, cutT]
theorem fillT_all (n : Nat) (l : List T3) : fillT n l l.length = cutT n l := by simp [fillT]
theorem fillT_len (n : Nat) (l : List T3) (k : Nat) (h : k ≤ l.length) : (fillT n l k).length = l.length := by simp [fillT, cutT]; omega
theorem fillT_step (n : Nat) (l : List T3) (k : Nat) (h : k < l.length) : (fillT n l k).set k ((rowT l[k]).take n) = fillT n l (k + 1) := by
  unfold fillT cutT
  rw [List.set_append_right _ _ (by simp; omega), List.length_map, List.length_take, Nat.min_eq_left (by omega), Nat.sub_self]
  rw [show l.length - k = (l.length - (k + 1)) + 1 by omega, List.replicate_succ, List.set_cons_zero, List.take_succ_eq_append_getElem h, List.map_append]
  simp
theorem bk3t {w : World} {b : Nat} {x y z : Value} {T : TypeId} (h : Bk w b #[x, y, z] T) : w.cell? ⟨b, 0, none⟩ = some x ∧ w.cell? ⟨b, 1, none⟩ = some y ∧ w.cell? ⟨b, 2, none⟩ = some z := ⟨h.cell 0 rfl, h.cell 1 rfl, h.cell 2 rfl⟩
theorem sl_cut1 {w : World} {B : Nat} {x y z : Int} {T : TypeId} (hb : Bk w B #[.int .i64 x, .int .i64 y, .int .i64 z] T) : Sl w (.slice (some ⟨B, 0, none⟩) 1 3) (intVals [x]) := by
  obtain ⟨h0, h1, h2⟩ := bk3t hb
  refine .inr ⟨by simp [intVals], B, 0, 3, by simp [intVals], by simp [intVals], by simp [intVals, maxLen], hb.lt, fun i u hi => ?_⟩
  match i, hi with
  | 0, hi => obtain rfl := Option.some.inj hi; exact h0
  | _ + 1, hi => simp [intVals] at hi
set_option maxRecDepth 100000 in
set_option maxHeartbeats 1600000 in
theorem i_vecs1 (l : List T3) (hlen : l.length ≤ 1048576) (v : Value) (w : World) (hv : Rd3 w v l) :
    Calls Tryd.prog 38 #[v, .int .i64 1] w (MadeR w (cutT 1 l)) := by
  obtain ⟨a, c, rfl, hvc, hvm, hvr⟩ := hv
  have HV := Lib.hid hvr
  unfold maxLen at hvm
  obtain ⟨i0, hi', hz0, hz1, hz2⟩ := info_parts info_row
  clear hvr
  go_enter Tryd.func38, Tryd.ntmps38
  go_wp2_with (at_make; refine wpList_make_full _ rfl _ _ 22 rfl w.heap.size 30 i0 _ 1 Tryd.underlying22 hi' hz0 hz1 .i64 .i64 _ _ l.length rfl rfl rfl rfl (by rw [hz2]; omega) (by unfold maxLen; omega) (by simp) ?_; intro w1 hown hgrow; have hbel : Below w.heap.size w w1 := (Below.refl _ _).grown hgrow (Nat.le_refl _) (fun q hq => by cases hq))
  rw [show (Value.slice none 0 0).cells = #[Value.slice none 0 0] from rfl, made_nils3] at hown
  have O1 := Lib.hid (show OwR 30 3 w.heap.size w1.heap.size w1 (.slice (some ⟨w.heap.size, 0, none⟩) l.length l.length) (fillT 1 l 0) by rw [fillT_zero]; exact owr_made3 hown)
  have B1 := Lib.hid hbel
  clear hown hgrow hbel hi' hz0 hz1 hz2
  go_loopw [13] (fun i wr => ∃ k : Nat, k ≤ l.length ∧ i = .int .i64 k ∧ OwR 30 3 w.heap.size wr.heap.size wr (.slice (some ⟨w.heap.size, 0, none⟩) l.length l.length) (fillT 1 l k) ∧ Below w.heap.size w wr) (fun i _ => l.length - (RowKit.intOf i).toNat)
  case atStart => exact ⟨0, Nat.zero_le _, rfl, O1.out, B1.out⟩
  case round =>
    obtain ⟨k, hk, rfl, ho, hb⟩ := hrel
    have HO := Lib.hid ho
    have HB := Lib.hid hb
    clear ho hb
    by_cases hlt : k < l.length
    · have i1 : (0 : Int) ≤ (k : Int) := by omega
      have i2 : (k : Int) < (l.length : Int) := by omega
      obtain ⟨b, o, rfl, hb2, q0, q1, q2⟩ := HV.out k hlt
      rw [← HB.out.cell (p := ⟨b, o + k * 3, none⟩) hb2] at q0
      rw [← HB.out.cell (p := ⟨b, o + k * 3 + 1, none⟩) hb2] at q1
      rw [← HB.out.cell (p := ⟨b, o + k * 3 + 2, none⟩) hb2] at q2
      have FS := Lib.hid (fillT_step 1 l k hlt)
      have FL := Lib.hid (fillT_len 1 l k hk)
      obtain ⟨x, hx⟩ : ∃ x, l[k] = x := ⟨_, rfl⟩
      rw [hx] at q0 q1 q2 FS
      obtain ⟨x1, x2, x3⟩ := x
      simp only at q0 q1 q2
      rw [show (rowT (x1, x2, x3)).take 1 = [x1] from rfl] at FS
      clear hx
      have KX := Lib.hid (Bk.new wr #[.int .i64 x1, .int .i64 x2, .int .i64 x3] 35)
      have BX := Lib.hid (below1 wr (.cells #[.int .i64 x1, .int .i64 x2, .int .i64 x3] 35))
      have hw : w.heap.size ≤ wr.heap.size := HB.out.size
      go_wp2_with fail
      refine (i_clone [x1] _ 1 3 _ (by simp) (by simp) (sl_cut1 KX.out)).mono ?_
      rintro e w2 ⟨⟨u, rfl, hu⟩, hb2'⟩
      obtain ⟨ga, gc, rfl, _, _⟩ := hu.form (by simp [intVals])
      rw [World.size_alloc] at hu
      have hb3 : Below wr.heap.size wr w2 := BX.out.trans (hb2'.mono BX.out.size)
      have O2 := Lib.hid (OwR.putNew FL.out.symm HO.out hb3 hw k (by rw [FL.out]; exact hlt) (hu.mono (by omega) (Nat.le_refl _)))
      rw [FS.out] at O2
      have B3 := Lib.hid ((HB.out.trans (hb3.mono hw)).setCell (p := ⟨w.heap.size, k, none⟩) (Nat.le_refl _) (.slice (some ⟨ga, 0, none⟩) (intVals [x1]).length gc))
      obtain ⟨b4, u4, e4, _, _, _, hc, hf, _⟩ := (HO.out.below hb3).at k (by rw [FL.out]; exact hlt) rfl
      simp only [Option.some.injEq, Addr.mk.injEq, and_true] at e4
      subst e4
      clear hu hb2' hb3 q0 q1 q2
      go_wp2
      exact ⟨⟨k + 1, by omega, by go_num, O2.out, B3.out⟩, by simp [RowKit.intOf]; omega⟩
    · obtain rfl : k = l.length := by omega
      have h := HO.out
      rw [fillT_all] at h
      have HE := Lib.hid h
      clear h
      go_wp2
      go_ret
      exact ⟨⟨_, rfl, HE.out⟩, HB.out⟩
theorem sl_cut2 {w : World} {B : Nat} {x y z : Int} {T : TypeId} (hb : Bk w B #[.int .i64 x, .int .i64 y, .int .i64 z] T) : Sl w (.slice (some ⟨B, 0, none⟩) 2 3) (intVals [x, y]) := by
  obtain ⟨h0, h1, h2⟩ := bk3t hb
  refine .inr ⟨by simp [intVals], B, 0, 3, by simp [intVals], by simp [intVals], by simp [intVals, maxLen], hb.lt, fun i u hi => ?_⟩
  match i, hi with
  | 0, hi => obtain rfl := Option.some.inj hi; exact h0
  | 1, hi => obtain rfl := Option.some.inj hi; exact h1
  | _ + 2, hi => simp [intVals] at hi
set_option maxRecDepth 100000 in
set_option maxHeartbeats 1600000 in
theorem i_vecs2 (l : List T3) (hlen : l.length ≤ 1048576) (v : Value) (w : World) (hv : Rd3 w v l) :
    Calls Tryd.prog 38 #[v, .int .i64 2] w (MadeR w (cutT 2 l)) := by
  obtain ⟨a, c, rfl, hvc, hvm, hvr⟩ := hv
  have HV := Lib.hid hvr
  unfold maxLen at hvm
  obtain ⟨i0, hi', hz0, hz1, hz2⟩ := info_parts info_row
  clear hvr
  go_enter Tryd.func38, Tryd.ntmps38
  go_wp2_with (at_make; refine wpList_make_full _ rfl _ _ 22 rfl w.heap.size 30 i0 _ 1 Tryd.underlying22 hi' hz0 hz1 .i64 .i64 _ _ l.length rfl rfl rfl rfl (by rw [hz2]; omega) (by unfold maxLen; omega) (by simp) ?_; intro w1 hown hgrow; have hbel : Below w.heap.size w w1 := (Below.refl _ _).grown hgrow (Nat.le_refl _) (fun q hq => by cases hq))
  rw [show (Value.slice none 0 0).cells = #[Value.slice none 0 0] from rfl, made_nils3] at hown
  have O1 := Lib.hid (show OwR 30 3 w.heap.size w1.heap.size w1 (.slice (some ⟨w.heap.size, 0, none⟩) l.length l.length) (fillT 2 l 0) by rw [fillT_zero]; exact owr_made3 hown)
  have B1 := Lib.hid hbel
  clear hown hgrow hbel hi' hz0 hz1 hz2
  go_loopw [13] (fun i wr => ∃ k : Nat, k ≤ l.length ∧ i = .int .i64 k ∧ OwR 30 3 w.heap.size wr.heap.size wr (.slice (some ⟨w.heap.size, 0, none⟩) l.length l.length) (fillT 2 l k) ∧ Below w.heap.size w wr) (fun i _ => l.length - (RowKit.intOf i).toNat)
  case atStart => exact ⟨0, Nat.zero_le _, rfl, O1.out, B1.out⟩
  case round =>
    obtain ⟨k, hk, rfl, ho, hb⟩ := hrel
    have HO := Lib.hid ho
    have HB := Lib.hid hb
    clear ho hb
    by_cases hlt : k < l.length
    · have i1 : (0 : Int) ≤ (k : Int) := by omega
      have i2 : (k : Int) < (l.length : Int) := by omega
      obtain ⟨b, o, rfl, hb2, q0, q1, q2⟩ := HV.out k hlt
      rw [← HB.out.cell (p := ⟨b, o + k * 3, none⟩) hb2] at q0
      rw [← HB.out.cell (p := ⟨b, o + k * 3 + 1, none⟩) hb2] at q1
      rw [← HB.out.cell (p := ⟨b, o + k * 3 + 2, none⟩) hb2] at q2
      have FS := Lib.hid (fillT_step 2 l k hlt)
      have FL := Lib.hid (fillT_len 2 l k hk)
      obtain ⟨x, hx⟩ : ∃ x, l[k] = x := ⟨_, rfl⟩
      rw [hx] at q0 q1 q2 FS
      obtain ⟨x1, x2, x3⟩ := x
      simp only at q0 q1 q2
      rw [show (rowT (x1, x2, x3)).take 2 = [x1, x2] from rfl] at FS
      clear hx
      have KX := Lib.hid (Bk.new wr #[.int .i64 x1, .int .i64 x2, .int .i64 x3] 35)
      have BX := Lib.hid (below1 wr (.cells #[.int .i64 x1, .int .i64 x2, .int .i64 x3] 35))
      have hw : w.heap.size ≤ wr.heap.size := HB.out.size
      go_wp2_with fail
      refine (i_clone [x1, x2] _ 2 3 _ (by simp) (by simp) (sl_cut2 KX.out)).mono ?_
      rintro e w2 ⟨⟨u, rfl, hu⟩, hb2'⟩
      obtain ⟨ga, gc, rfl, _, _⟩ := hu.form (by simp [intVals])
      rw [World.size_alloc] at hu
      have hb3 : Below wr.heap.size wr w2 := BX.out.trans (hb2'.mono BX.out.size)
      have O2 := Lib.hid (OwR.putNew FL.out.symm HO.out hb3 hw k (by rw [FL.out]; exact hlt) (hu.mono (by omega) (Nat.le_refl _)))
      rw [FS.out] at O2
      have B3 := Lib.hid ((HB.out.trans (hb3.mono hw)).setCell (p := ⟨w.heap.size, k, none⟩) (Nat.le_refl _) (.slice (some ⟨ga, 0, none⟩) (intVals [x1, x2]).length gc))
      obtain ⟨b4, u4, e4, _, _, _, hc, hf, _⟩ := (HO.out.below hb3).at k (by rw [FL.out]; exact hlt) rfl
      simp only [Option.some.injEq, Addr.mk.injEq, and_true] at e4
      subst e4
      clear hu hb2' hb3 q0 q1 q2
      go_wp2
      exact ⟨⟨k + 1, by omega, by go_num, O2.out, B3.out⟩, by simp [RowKit.intOf]; omega⟩
    · obtain rfl : k = l.length := by omega
      have h := HO.out
      rw [fillT_all] at h
      have HE := Lib.hid h
      clear h
      go_wp2
      go_ret
      exact ⟨⟨_, rfl, HE.out⟩, HB.out⟩
theorem sl_cut3 {w : World} {B : Nat} {x y z : Int} {T : TypeId} (hb : Bk w B #[.int .i64 x, .int .i64 y, .int .i64 z] T) : Sl w (.slice (some ⟨B, 0, none⟩) 3 3) (intVals [x, y, z]) := by
  obtain ⟨h0, h1, h2⟩ := bk3t hb
  refine .inr ⟨by simp [intVals], B, 0, 3, by simp [intVals], by simp [intVals], by simp [intVals, maxLen], hb.lt, fun i u hi => ?_⟩
  match i, hi with
  | 0, hi => obtain rfl := Option.some.inj hi; exact h0
  | 1, hi => obtain rfl := Option.some.inj hi; exact h1
  | 2, hi => obtain rfl := Option.some.inj hi; exact h2
  | _ + 3, hi => simp [intVals] at hi
set_option maxRecDepth 100000 in
set_option maxHeartbeats 1600000 in
theorem i_vecs3 (l : List T3) (hlen : l.length ≤ 1048576) (v : Value) (w : World) (hv : Rd3 w v l) :
    Calls Tryd.prog 38 #[v, .int .i64 3] w (MadeR w (cutT 3 l)) := by
  obtain ⟨a, c, rfl, hvc, hvm, hvr⟩ := hv
  have HV := Lib.hid hvr
  unfold maxLen at hvm
  obtain ⟨i0, hi', hz0, hz1, hz2⟩ := info_parts info_row
  clear hvr
  go_enter Tryd.func38, Tryd.ntmps38
  go_wp2_with (at_make; refine wpList_make_full _ rfl _ _ 22 rfl w.heap.size 30 i0 _ 1 Tryd.underlying22 hi' hz0 hz1 .i64 .i64 _ _ l.length rfl rfl rfl rfl (by rw [hz2]; omega) (by unfold maxLen; omega) (by simp) ?_; intro w1 hown hgrow; have hbel : Below w.heap.size w w1 := (Below.refl _ _).grown hgrow (Nat.le_refl _) (fun q hq => by cases hq))
  rw [show (Value.slice none 0 0).cells = #[Value.slice none 0 0] from rfl, made_nils3] at hown
  have O1 := Lib.hid (show OwR 30 3 w.heap.size w1.heap.size w1 (.slice (some ⟨w.heap.size, 0, none⟩) l.length l.length) (fillT 3 l 0) by rw [fillT_zero]; exact owr_made3 hown)
  have B1 := Lib.hid hbel
  clear hown hgrow hbel hi' hz0 hz1 hz2
  go_loopw [13] (fun i wr => ∃ k : Nat, k ≤ l.length ∧ i = .int .i64 k ∧ OwR 30 3 w.heap.size wr.heap.size wr (.slice (some ⟨w.heap.size, 0, none⟩) l.length l.length) (fillT 3 l k) ∧ Below w.heap.size w wr) (fun i _ => l.length - (RowKit.intOf i).toNat)
  case atStart => exact ⟨0, Nat.zero_le _, rfl, O1.out, B1.out⟩
  case round =>
    obtain ⟨k, hk, rfl, ho, hb⟩ := hrel
    have HO := Lib.hid ho
    have HB := Lib.hid hb
    clear ho hb
    by_cases hlt : k < l.length
    · have i1 : (0 : Int) ≤ (k : Int) := by omega
      have i2 : (k : Int) < (l.length : Int) := by omega
      obtain ⟨b, o, rfl, hb2, q0, q1, q2⟩ := HV.out k hlt
      rw [← HB.out.cell (p := ⟨b, o + k * 3, none⟩) hb2] at q0
      rw [← HB.out.cell (p := ⟨b, o + k * 3 + 1, none⟩) hb2] at q1
      rw [← HB.out.cell (p := ⟨b, o + k * 3 + 2, none⟩) hb2] at q2
      have FS := Lib.hid (fillT_step 3 l k hlt)
      have FL := Lib.hid (fillT_len 3 l k hk)
      obtain ⟨x, hx⟩ : ∃ x, l[k] = x := ⟨_, rfl⟩
      rw [hx] at q0 q1 q2 FS
      obtain ⟨x1, x2, x3⟩ := x
      simp only at q0 q1 q2
      rw [show (rowT (x1, x2, x3)).take 3 = [x1, x2, x3] from rfl] at FS
      clear hx
      have KX := Lib.hid (Bk.new wr #[.int .i64 x1, .int .i64 x2, .int .i64 x3] 35)
      have BX := Lib.hid (below1 wr (.cells #[.int .i64 x1, .int .i64 x2, .int .i64 x3] 35))
      have hw : w.heap.size ≤ wr.heap.size := HB.out.size
      go_wp2_with fail
      refine (i_clone [x1, x2, x3] _ 3 3 _ (by simp) (by simp) (sl_cut3 KX.out)).mono ?_
      rintro e w2 ⟨⟨u, rfl, hu⟩, hb2'⟩
      obtain ⟨ga, gc, rfl, _, _⟩ := hu.form (by simp [intVals])
      rw [World.size_alloc] at hu
      have hb3 : Below wr.heap.size wr w2 := BX.out.trans (hb2'.mono BX.out.size)
      have O2 := Lib.hid (OwR.putNew FL.out.symm HO.out hb3 hw k (by rw [FL.out]; exact hlt) (hu.mono (by omega) (Nat.le_refl _)))
      rw [FS.out] at O2
      have B3 := Lib.hid ((HB.out.trans (hb3.mono hw)).setCell (p := ⟨w.heap.size, k, none⟩) (Nat.le_refl _) (.slice (some ⟨ga, 0, none⟩) (intVals [x1, x2, x3]).length gc))
      obtain ⟨b4, u4, e4, _, _, _, hc, hf, _⟩ := (HO.out.below hb3).at k (by rw [FL.out]; exact hlt) rfl
      simp only [Option.some.injEq, Addr.mk.injEq, and_true] at e4
      subst e4
      clear hu hb2' hb3 q0 q1 q2
      go_wp2
      exact ⟨⟨k + 1, by omega, by go_num, O2.out, B3.out⟩, by simp [RowKit.intOf]; omega⟩
    · obtain rfl : k = l.length := by omega
      have h := HO.out
      rw [fillT_all] at h
      have HE := Lib.hid h
      clear h
      go_wp2
      go_ret
      exact ⟨⟨_, rfl, HE.out⟩, HB.out⟩
end Go.Proofs.YteenheidomfpkaaDoor
