/- The program's planePoints: points as new rows. -/
import Derived.Test.YtckpifcdlmfabaaPgO
namespace Go.Proofs.Ytckpifcdlmfabaa
open Go Go.RowKit Go.Lib

theorem owr_made {T e : TypeId} {base : Nat} {w : World} {v : Value} {n : Nat} (h : w.ownsRow base T 1 v n (List.replicate n (.slice none 0 0))) : OwR T e base w.heap.size w v (List.replicate n []) := by
  have key : ∀ (i : Nat) (u : Value), (List.replicate n (Value.slice none 0 0))[i]? = some u → u = .slice none 0 0 := fun i u hu => by
    rw [List.getElem?_replicate] at hu
    split at hu
    · exact (Option.some.inj hu).symm
    · cases hu
  refine ⟨List.replicate n (.slice none 0 0), by simp, OwnV.of_owns h, ?_, ?_, ?_⟩
  · intro i u zs hu hz
    have hz2 : zs = [] := by
      rw [List.getElem?_replicate] at hz
      split at hz
      · exact (Option.some.inj hz).symm
      · cases hz
    rw [key i u hu, hz2]
    exact OwnV.nil
  · intro i j u u' b _ hu _ hub
    rw [key i u hu] at hub
    cases hub
  · intro i u b hu hub
    rw [key i u hu] at hub
    cases hub
theorem made_nils (n : Nat) : (madeCells #[Value.slice none 0 0] (n * 1)).toList = List.replicate n (.slice none 0 0) := by
  refine List.ext_getElem? fun i => ?_
  unfold madeCells
  rw [Array.getElem?_toList, Array.getElem?_map, List.getElem?_replicate]
  by_cases hi : i < n
  · simp [hi]
    rw [show i % 1 = 0 by omega]
    rfl
  · simp [hi]
/-- The first k are there, the others nil. -/
def fillR (ps : List P2) (k : Nat) : List (List Int) := (ps.take k).map rowOf ++ List.replicate (ps.length - k) []
theorem fillR_zero (ps : List P2) : fillR ps 0 = List.replicate ps.length [] := by simp [fillR]
theorem fillR_all (ps : List P2) : fillR ps ps.length = ps.map rowOf := by simp [fillR]
theorem fillR_len (ps : List P2) (k : Nat) (h : k ≤ ps.length) : (fillR ps k).length = ps.length := by simp [fillR]; omega
theorem fillR_step (ps : List P2) (k : Nat) (h : k < ps.length) : (fillR ps k).set k (rowOf ps[k]) = fillR ps (k + 1) := by
  unfold fillR
  rw [List.set_append_right _ _ (by simp; omega), List.length_map, List.length_take, Nat.min_eq_left (by omega), Nat.sub_self]
  rw [show ps.length - k = (ps.length - (k + 1)) + 1 by omega, List.replicate_succ, List.set_cons_zero, List.take_succ_eq_append_getElem h, List.map_append]
  simp
theorem sl_two {w : World} {B : Nat} {x y z : Int} {T : TypeId} (hb : Bk w B #[.int .i64 x, .int .i64 y, .int .i64 z] T) : Sl w (.slice (some ⟨B, 0, none⟩) 2 3) (intVals (rowOf (x, y))) := by
  obtain ⟨h0, h1, _⟩ := bk3c hb
  refine .inr ⟨by simp [intVals, rowOf], B, 0, 3, by simp [intVals, rowOf], by simp [intVals, rowOf], by simp [intVals, rowOf, maxLen], hb.lt, fun i u hi => ?_⟩
  match i, hi with
  | 0, hi => obtain rfl := Option.some.inj hi; exact h0
  | 1, hi => obtain rfl := Option.some.inj hi; exact h1
  | _ + 2, hi => simp [intVals, rowOf] at hi
set_option maxRecDepth 100000 in
set_option maxHeartbeats 1600000 in
theorem i_plane2 (ps : List P2) (h200 : ps.length ≤ 1048576) (lo hi : Nat) (v : Value) (w : World) (hv : OwP lo hi w v ps) :
    Calls Try.prog 73 #[v] w (MadeR w (ps.map rowOf)) := by
  have HV := Lib.hid hv
  obtain ⟨a, c, rfl, hvc, hvm⟩ := hv.shape
  unfold maxLen at hvm
  obtain ⟨i0, hi', hz0, hz1, hz2⟩ := info_parts info_row
  clear hv
  go_enter Try.func73, Try.ntmps73
  go_wp2_with (at_make; refine wpList_make_full _ rfl _ _ 38 rfl w.heap.size 46 i0 _ 1 Try.underlying38 hi' hz0 hz1 .i64 .i64 _ _ ps.length rfl rfl rfl rfl (by rw [hz2]; omega) (by unfold maxLen; omega) (by simp) ?_; intro w1 hown hgrow; have hbel : Below w.heap.size w w1 := (Below.refl _ _).grown hgrow (Nat.le_refl _) (fun q hq => by cases hq))
  rw [show (Value.slice none 0 0).cells = #[Value.slice none 0 0] from rfl, made_nils] at hown
  have O1 := Lib.hid (show OwR 46 3 w.heap.size w1.heap.size w1 (.slice (some ⟨w.heap.size, 0, none⟩) ps.length ps.length) (fillR ps 0) by rw [fillR_zero]; exact owr_made hown)
  have B1 := Lib.hid hbel
  clear hown hgrow hbel hi' hz0 hz1 hz2
  go_loopw [11] (fun i wr => ∃ k : Nat, k ≤ ps.length ∧ i = .int .i64 k ∧ OwR 46 3 w.heap.size wr.heap.size wr (.slice (some ⟨w.heap.size, 0, none⟩) ps.length ps.length) (fillR ps k) ∧ Below w.heap.size w wr) (fun i _ => ps.length - (RowKit.intOf i).toNat)
  case atStart => exact ⟨0, Nat.zero_le _, rfl, O1.out, B1.out⟩
  case round =>
    obtain ⟨k, hk, rfl, ho, hb⟩ := hrel
    have HO := Lib.hid ho
    have HB := Lib.hid hb
    clear ho hb
    by_cases hlt : k < ps.length
    · have i1 : (0 : Int) ≤ (k : Int) := by omega
      have i2 : (k : Int) < (ps.length : Int) := by omega
      obtain ⟨b, rfl, -, -, -, hb2, -, ⟨q0, q1, q2⟩, -⟩ := HV.out.at3 k hlt rfl
      rw [← HB.out.cell (p := ⟨b, k * 3, none⟩) hb2] at q0
      rw [← HB.out.cell (p := ⟨b, k * 3 + 1, none⟩) hb2] at q1
      rw [← HB.out.cell (p := ⟨b, k * 3 + 2, none⟩) hb2] at q2
      have FS := Lib.hid (fillR_step ps k hlt)
      have FL := Lib.hid (fillR_len ps k hk)
      obtain ⟨x, hx⟩ : ∃ x, ps[k] = x := ⟨_, rfl⟩
      rw [hx] at q0 q1 FS
      obtain ⟨x1, x2⟩ := x
      simp only at q0 q1
      clear hx
      have KX := Lib.hid (Bk.new wr #[.int .i64 x1, .int .i64 x2, .int .i64 0] 57)
      have BX := Lib.hid (below1 wr (.cells #[.int .i64 x1, .int .i64 x2, .int .i64 0] 57))
      have hw : w.heap.size ≤ wr.heap.size := HB.out.size
      go_wp2_with fail
      refine (i_clone (rowOf (x1, x2)) _ 2 3 _ (by simp [rowOf]) (by simp [rowOf]) (sl_two KX.out)).mono ?_
      rintro e w2 ⟨⟨u, rfl, hu⟩, hb2'⟩
      obtain ⟨ga, gc, rfl, _, _⟩ := hu.form (by simp [intVals, rowOf])
      rw [World.size_alloc] at hu
      have hb3 : Below wr.heap.size wr w2 := BX.out.trans (hb2'.mono BX.out.size)
      have O2 := Lib.hid (OwR.putNew FL.out.symm HO.out hb3 hw k (by rw [FL.out]; exact hlt) (hu.mono (by omega) (Nat.le_refl _)))
      rw [FS.out] at O2
      have B3 := Lib.hid ((HB.out.trans (hb3.mono hw)).setCell (p := ⟨w.heap.size, k, none⟩) (Nat.le_refl _) (.slice (some ⟨ga, 0, none⟩) (intVals (rowOf (x1, x2))).length gc))
      obtain ⟨b4, u4, e4, _, _, _, hc, hf, _⟩ := (HO.out.below hb3).at k (by rw [FL.out]; exact hlt) rfl
      simp only [Option.some.injEq, Addr.mk.injEq, and_true] at e4
      subst e4
      clear hu hb2' hb3 q0 q1 q2
      go_wp2
      exact ⟨⟨k + 1, by omega, by go_num, O2.out, B3.out⟩, by simp [RowKit.intOf]; omega⟩
    · obtain rfl : k = ps.length := by omega
      have h := HO.out
      rw [fillR_all] at h
      have HE := Lib.hid h
      clear h
      go_wp2
      go_ret
      exact ⟨⟨_, rfl, HE.out⟩, HB.out⟩
end Go.Proofs.Ytckpifcdlmfabaa
