/- The model's matrices: minors. -/
import Derived.Test.YteenheidomfpkaaDoorMatX
namespace Go.Proofs.YteenheidomfpkaaDoor
open Go.RowKit Go.Lib

/-- append(out, ys...) at a step of a region that draws its order; ys: any slice that is not nil. -/
theorem step_app_sl {ops : Array Oper} {o : Oper} {a : Act} {w : World} {K : Act → World → Prop} {Q : Exit → Act → World → Prop} {E : Prop} (hgd : o.guard = none) (s x : Operand)
    (ho : o.op = .call { callee := .builtin .append, args := #[s, x], argTypes := #[30, 30] })
    (base : Nat) (v : Value) (n : Nat) (xs ys : List Int) (hs : a.eval s = v) (hown : w.ownsRow base 3 1 v n (intVals xs))
    (ad : Addr) (m c : Nat) (hx : a.eval x = .slice (some ad) m c) (hm : ys.length = m) (hc : ∀ (j : Nat) u, (intVals ys)[j]? = some u → w.cell? (ad.add j) = some u)
    (hn : n + m ≤ 1099511627776) (hbase : base ≤ w.heap.size)
    (h : ∀ v' w', w'.ownsRow base 3 1 v' (n + m) (intVals (xs ++ ys)) → Below base w w' → K (a.put o.dst v') w') :
    if Region.wanted o (yielded ops a.tmps) = true then Oper.wp Tryd.prog o a w K Q else E := by
  obtain ⟨i0, hi, hz0, hz1, hz2⟩ := info_parts info_int'
  have hw : Region.wanted o (yielded ops a.tmps) = true := by simp [Region.wanted, hgd]
  rw [if_pos hw]
  obtain ⟨v', w', hr, h2, h3, _, _⟩ := run_append_own_at (P := Tryd.prog) w base 30 o.type 3 i0 _ 1 8 Tryd.underlying30 hi hz0 hz1 hz2 rfl (by omega) v n _ hown ad m c (intVals ys) (by rw [intVals_len, hm, Nat.mul_one]) hc (by intro q hq; obtain ⟨z, _, rfl⟩ := List.mem_map.1 hq; rfl) (by unfold maxLen; omega) (by omega) hbase
  unfold Oper.wp execOp
  simp only [ho, resolve, invoke, builtin, Sem.run_bind, Sem.run_pure, Result.andThen_ok, List.map_toArray, List.map_cons, List.map_nil, hs, hx, hr]
  refine h v' w' (by rw [show intVals (xs ++ ys) = intVals xs ++ intVals ys by simp [intVals]]; exact h2) ((Below.refl base w).grown h3 hbase ?_)
  intro k hk
  exact (hown.lt k hk).1

/-- append(out, ys...) at a plain list of operations; ys: any slice that is not nil. -/
theorem list_app_sl {ops : Array Oper} {rest : List Oper} {o : Oper} {a : Act} {w : World} {Q : Exit → Act → World → Prop} (hgd : o.guard = none) (s x : Operand)
    (ho : o.op = .call { callee := .builtin .append, args := #[s, x], argTypes := #[30, 30] })
    (base : Nat) (v : Value) (n : Nat) (xs ys : List Int) (hs : a.eval s = v) (hown : w.ownsRow base 3 1 v n (intVals xs))
    (ad : Addr) (m c : Nat) (hx : a.eval x = .slice (some ad) m c) (hm : ys.length = m) (hc : ∀ (j : Nat) u, (intVals ys)[j]? = some u → w.cell? (ad.add j) = some u)
    (hn : n + m ≤ 1099511627776) (hbase : base ≤ w.heap.size)
    (h : ∀ v' w', w'.ownsRow base 3 1 v' (n + m) (intVals (xs ++ ys)) → Below base w w' → wpList Tryd.prog ops Q rest (a.put o.dst v') w') :
    wpList Tryd.prog ops Q (o :: rest) a w := by
  obtain ⟨i0, hi, hz0, hz1, hz2⟩ := info_parts info_int'
  refine wpList_append_own w hgd s x 30 ho base 3 i0 _ 1 8 Tryd.underlying30 hi hz0 hz1 hz2 rfl (by omega) v n _ hs hown ad m c (intVals ys) hx (by rw [intVals_len, hm, Nat.mul_one]) hc (by intro q hq; obtain ⟨z, _, rfl⟩ := List.mem_map.1 hq; rfl) (by unfold maxLen; omega) (by omega) hbase ?_
  intro v' w' h1 h2 _
  refine h v' w' (by rw [show intVals (xs ++ ys) = intVals xs ++ intVals ys by simp [intVals]]; exact h1) ((Below.refl base w).grown h2 hbase ?_)
  intro k hk
  exact (hown.lt k hk).1
theorem cells_below {w0 w1 : World} {B : Nat} (hb : Below B w0 w1) {b o : Nat} (hlt : b < B) {l : List Value} (h : ∀ (j : Nat) u, l[j]? = some u → w0.cell? ⟨b, o + j, none⟩ = some u) : ∀ (j : Nat) u, l[j]? = some u → w1.cell? ((⟨b, o, none⟩ : Addr).add j) = some u := by
  intro j u hj
  have hadd : (⟨b, o, none⟩ : Addr).add j = ⟨b, o + j, none⟩ := by unfold Addr.add; split <;> simp_all
  rw [hadd]
  exact (hb.cell hlt).trans (h j u hj)
/-- A row without its number c. -/
def cutL (c : Nat) (r : List Int) : List Int := r.take c ++ r.drop (c + 1)
def partL (m : List (List Int)) (ro c : Nat) : List (List Int) := (m.eraseIdx ro).map (cutL c)
def minorD (m : List (List Int)) (ro c : Nat) : Int := if (partL m ro c).length = 0 then 1 else detL (partL m ro c)
theorem part_ne {m : List (List Int)} {ro c k : Nat} (h : k < m.length) (hne : k ≠ ro) : partL (m.take (k + 1)) ro c = partL (m.take k) ro c ++ [cutL c m[k]] := by
  have hl : (m.take k).length = k := by rw [List.length_take]; omega
  unfold partL
  rw [List.take_succ_eq_append_getElem h]
  by_cases hlt : ro < k
  · rw [List.eraseIdx_append_of_lt_length (by omega), List.map_append]; rfl
  · rw [List.eraseIdx_of_length_le (by rw [List.length_append, hl, List.length_singleton]; omega), List.eraseIdx_of_length_le (by omega), List.map_append]; rfl
theorem part_eq {m : List (List Int)} {c k : Nat} (h : k < m.length) : partL (m.take (k + 1)) k c = partL (m.take k) k c := by
  have hl : (m.take k).length = k := by rw [List.length_take]; omega
  unfold partL
  rw [List.take_succ_eq_append_getElem h, List.eraseIdx_append_of_length_le (by omega), List.eraseIdx_of_length_le (l := m.take k) (by omega), hl, Nat.sub_self]
  simp
theorem cutL_len {c : Nat} {r : List Int} (h : c < r.length) : (cutL c r).length = r.length - 1 := by
  unfold cutL
  rw [List.length_append, List.length_take, List.length_drop]; omega
theorem part_sq {n : Nat} {b : Int} {m : List (List Int)} {ro c : Nat} (h : Sq n b m) (hr : ro < n) (hc : c < n) : Sq (n - 1) b (partL m ro c) := by
  obtain ⟨h1, h2⟩ := h
  have hl : (partL m ro c).length = n - 1 := by unfold partL; rw [List.length_map, List.length_eraseIdx]; split <;> omega
  refine ⟨hl, fun i hi => ?_⟩
  have hi' : i < (m.eraseIdx ro).length := by simpa [partL] using hi
  have e : (partL m ro c)[i] = cutL c (m.eraseIdx ro)[i] := by simp [partL]
  have hmem := List.mem_of_mem_eraseIdx (List.getElem_mem hi')
  obtain ⟨j, hj, e2⟩ := List.getElem_of_mem hmem
  obtain ⟨h3, h4⟩ := h2 j hj
  rw [e, ← e2]
  refine ⟨by rw [cutL_len (by omega), h3], fun k hk => ?_⟩
  have hm2 : (cutL c m[j])[k] ∈ m[j] := by
    have := List.getElem_mem hk
    unfold cutL at this
    rw [List.mem_append] at this
    rcases this with h | h
    · exact List.mem_of_mem_take h
    · exact List.mem_of_mem_drop h
  obtain ⟨q, hq, e3⟩ := List.getElem_of_mem hm2
  rw [← e3]
  exact h4 q hq

set_option maxRecDepth 100000 in
set_option maxHeartbeats 1600000 in
/-- l3Minor. -/
theorem s_minor (n : Nat) (m : List (List Int)) (h3 : n ≤ 3) (hm : Sq n 100 m) (ro c : Nat) (hr : ro < n) (hc : c < n) (v : Value) (w : World) (hv : Rw w v m) :
    Calls Tryd.prog 14 #[v, .int .i64 ro, .int .i64 c] w (Quiet w (.int .i64 (minorD m ro c))) := by
  have HV := Lib.hid hv
  have HM := Lib.hid hm
  obtain ⟨p, cp, rfl, _, _⟩ := hv.shape
  have hl := hm.1
  clear hv hm
  go_enter Tryd.func14, Tryd.ntmps14
  go_wp2
  go_loopw [7, 8] (fun o i wr => ∃ k : Nat, k ≤ m.length ∧ i = .int .i64 k ∧ OwR 30 3 w.heap.size wr.heap.size wr o (partL (m.take k) ro c) ∧ Below w.heap.size w wr) (fun _ i _ => m.length - (RowKit.intOf i).toNat)
  case atStart => exact ⟨0, Nat.zero_le _, rfl, owr_empty (Nat.le_refl _), (Below.refl _ _).alloc (Nat.le_refl _) _⟩
  case round =>
    obtain ⟨k, hk, rfl, how, hbr⟩ := hrel
    have HW := Lib.hid how
    have HB := Lib.hid hbr
    clear how hbr
    by_cases hlt : k < m.length
    · by_cases hkr : k = ro
      · subst hkr
        have PT := Lib.hid (part_eq (c := c) hlt)
        go_wp2
        refine ⟨⟨k + 1, by omega, by go_num, ?_, HB.out⟩, by simp [RowKit.intOf]; omega⟩
        rw [PT.out]
        exact HW.out
      · have PT := Lib.hid (part_ne (c := c) hlt hkr)
        obtain ⟨b1, o1, r, rfl, hlt1, hcell, hsl⟩ := HV.out.row k hlt rfl
        rw [← HB.out.cell (p := ⟨b1, o1 + k, none⟩) hlt1] at hcell
        have hsl2 := hsl.below HB.out
        have hkl : m[k].length = n := (HM.out.2 k hlt).1
        obtain ⟨ra, rc, rfl, _, hsh⟩ := hsl2.shape
        obtain ⟨b2, o2, rfl, _, hlt2, hx2⟩ := hsh (by rw [intVals_len, hkl]; omega)
        rw [intVals_len, hkl] at hcell
        have HX := Lib.hid hx2
        have e1 : IntKind.i64.wrap ((c : Int) + 1) = (c : Int) + 1 := IntWalk.i64_in _ (by omega)
        have hnrc : n ≤ rc := by rw [intVals_len, hkl] at *; assumption
        have hn0 : 0 < n := by omega
        have i1 : (0 : Int) ≤ (c : Int) := by omega
        have i2 : (c : Int) ≤ (rc : Int) := by omega
        have i3 : (0 : Int) ≤ (c : Int) + 1 := by omega
        have i4 : (c : Int) + 1 ≤ (n : Int) := by omega
        have HT := Lib.hid (fun (j : Nat) u (h : (intVals (m[k].take c))[j]? = some u) => HX.out j u (by
          have hj := lt_of_get h
          rw [intVals_len, List.length_take] at hj
          simp only [intVals, List.getElem?_map, List.getElem?_take] at h ⊢
          rwa [if_pos (by omega)] at h))
        obtain ⟨o3, hif, hcd⟩ : ∃ o3 : Nat, (if rc = c + 1 then some (⟨b2, o2, none⟩ : Addr) else some ⟨b2, o2 + (c + 1), none⟩) = some ⟨b2, o3, none⟩ ∧ ∀ (j : Nat) u, (intVals (m[k].drop (c + 1)))[j]? = some u → wr.cell? ⟨b2, o3 + j, none⟩ = some u := by
          by_cases hz : rc = c + 1
          · refine ⟨o2, if_pos hz, fun j u h => ?_⟩
            have hj := lt_of_get h
            rw [intVals_len, List.length_drop] at hj
            omega
          · refine ⟨o2 + (c + 1), if_neg hz, fun j u h => ?_⟩
            have h2 := HX.out (c + 1 + j) u (by
              simp only [intVals, List.getElem?_map, List.getElem?_drop] at h ⊢
              exact h)
            rwa [← Nat.add_assoc] at h2
        have HIF := Lib.hid hif
        have HD := Lib.hid hcd
        clear hif hcd
        have hlt3 : b1 < wr.heap.size := Nat.lt_of_lt_of_le hlt1 HB.out.size
        have HB2 := Lib.hid hlt2
        clear hsl hsl2 hsh hx2
        go_wp2
        go_region_held3 (fun w' => w'.cell? ⟨b1, o1 + k, none⟩ = some (.slice (some ⟨b2, o2, none⟩) n rc))
          (first | go_keep | (go_split_ands; exact (hbel2.cell hlt3).trans (by assumption)) | (go_split_ands; exact (hbel1.cell hlt3).trans (by assumption)))
          (first | (refine step_app_sl (by rfl) _ _ (by rfl) wr.heap.size _ 0 [] (m[k].take c) (by rfl) (owns_none (Nat.le_refl _)).drew ⟨b2, o2, none⟩ c rc (by rfl) (by rw [List.length_take]; omega) (cells_below (((Below.refl _ _).alloc (Nat.le_refl _) _).drew) hlt2 HT.out) (by omega) (by simp) ?_; intro v1 w1 hown1 hbel1; have HO1 := Lib.hid hown1; have HB1 := Lib.hid ((((Below.refl wr.heap.size wr).alloc (Nat.le_refl _) _).drew).trans hbel1)) | (refine step_app_sl (by rfl) _ _ (by rfl) wr.heap.size _ (0 + c) ([] ++ m[k].take c) (m[k].drop (c + 1)) (by rfl) HO1.out ⟨b2, o3, none⟩ (n - (c + 1)) (rc - (c + 1)) (by exact congrArg (fun z => Value.slice z (n - (c + 1)) (rc - (c + 1))) HIF.out) (by rw [List.length_drop]; omega) (cells_below HB1.out hlt2 HD.out) (by omega) HB1.out.size ?_; intro v2 w2 hown2 hbel2))
        have hcl : (intVals (cutL c m[k])).length = n - 1 := by rw [intVals_len, cutL_len (by omega), hkl]
        have ho : OwnV 3 wr.heap.size w2.heap.size w2 v2 (intVals (cutL c m[k])) := OwnV.of_owns (by
          have e : (0 + c + (n - (c + 1))) = (0 + c + (n - (c + 1))) := rfl
          rw [List.nil_append] at hown2
          exact hown2)
        have HR2 := Lib.hid ho
        obtain ⟨gr, gc, e0, _, _⟩ := ho.form (by rw [hcl]; omega)
        rw [hcl] at e0
        subst e0
        have hb2 : Below wr.heap.size wr w2 := HB1.out.trans hbel2
        have HW2 := Lib.hid (HW.out.below hb2)
        have HB4 := Lib.hid (HB.out.trans (hb2.mono HB.out.size))
        have hs2 : wr.heap.size ≤ w2.heap.size := hb2.size
        have HN2 := Lib.hid (show (partL (m.take k) ro c).length ≤ 1099511627776 by unfold partL; rw [List.length_map, List.length_eraseIdx, List.length_take]; split <;> omega)
        clear ho hb2 hown2 hbel2 hown1 hbel1
        go_wp2_with (at_builtin; refine list_app_row rfl _ _ rfl w.heap.size wr.heap.size _ _ (partL (m.take k) ro c) (cutL c m[k]) rfl (HW2.out.below ((Below.refl _ _).alloc (Nat.le_refl _) _)) ((HR2.out.below ((Below.refl _ _).alloc (Nat.le_refl _) _)).mono (Nat.le_refl _) (by rw [World.size_alloc]; omega)) w2.heap.size rfl (heap_alloc_new w2 _) HN2.out HB.out.size (by rw [World.size_alloc]; omega) ?_; intro g cap w' hown hbel; have HO4 := Lib.hid hown; have HB5 := Lib.hid ((HB4.out.alloc HB4.out.size _).trans hbel); clear hown hbel)
        all_goals
          refine ⟨⟨k + 1, by omega, by go_num, ?_, HB5.out⟩, by simp [RowKit.intOf]; omega⟩
          rw [PT.out]
          exact HO4.out
    · obtain rfl : k = m.length := by omega
      have hpl : (partL m ro c).length = n - 1 := (part_sq HM.out hr hc).1
      have h2 := HW.out
      rw [List.take_length] at h2
      have HO := Lib.hid h2
      clear h2 HW
      obtain ⟨oa, oc, rfl, _, _⟩ := HO.out.rw.shape
      rw [hpl] at HO
      by_cases h1 : n = 1
      · have hz : minorD m ro c = 1 := by unfold minorD; rw [if_pos (by omega)]
        have HZ := Lib.hid hz
        clear hz
        subst h1
        go_wp2
        go_ret
        exact ⟨by rw [HZ.out]; rfl, HB.out⟩
      · have hz : minorD m ro c = detL (partL m ro c) := by unfold minorD; rw [if_neg (by omega)]
        have HZ := Lib.hid hz
        clear hz
        have hne : (((n - 1 : Nat) : Int) == 0) = false := by rw [beq_eq_false_iff_ne]; omega
        go_wp2_with fail
        refine (s_det (n - 1) 100 (partL m ro c) (by omega) (by omega) (by omega) (by omega) (part_sq HM.out hr hc) _ _ HO.out.rw).mono ?_
        rintro e w1 ⟨rfl, hb1⟩
        have HB1 := Lib.hid (HB.out.trans (hb1.mono HB.out.size))
        clear hb1
        go_wp2
        go_ret
        exact ⟨by rw [HZ.out]; rfl, HB1.out⟩
end Go.Proofs.YteenheidomfpkaaDoor
