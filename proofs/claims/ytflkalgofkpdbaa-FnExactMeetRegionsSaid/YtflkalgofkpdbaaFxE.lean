/- The program's search among halves of fixed length. -/
import Derived.Test.YtflkalgofkpdbaaFxC
import Derived.Test.YtflkalgofkpdbaaRegE
import Derived.Laws.StructEq
namespace Go.Proofs.Ytflkalgofkpdbaa
open Go.RowKit Go.Lib

theorem eq_arr2 (d : Nat) (x y z x' y' z' : Int) (w : World) : (Op.equalIn (d + 1 + 1) 58 (.agg #[.int .i64 x, .int .i64 y, .int .i64 z]) (.agg #[.int .i64 x', .int .i64 y', .int .i64 z'])).run Try.prog w = .ok (decide (x = x' ∧ y = y' ∧ z = z')) w := by
  have u3 := Try.underlying3
  have a3 := Try.isAgg3
  have z3 := Try.sizeOf3
  rw [Op.equalIn]
  simp only [Sem.run_bind, run_underlying Try.underlying58, Result.andThen_ok]
  simp only [Std.Legacy.Range.forIn_eq_forIn_range', Std.Legacy.Range.size, Nat.sub_zero, Nat.add_sub_cancel, Nat.div_one, List.range'_succ, List.range'_zero, List.forIn_cons, List.forIn_nil]
  go_simp
  by_cases h1 : x = x' <;> by_cases h2 : y = y' <;> by_cases h3 : z = z' <;> simp [h1, h2, h3]
theorem fx_fields : Try.prog.underlying 69 = some (.struct (Try.prog.fieldsOf 69)) := by kernel_rfl
theorem fx_stood : Try.prog.stoodInHeld 69 = false := by kernel_rfl
theorem fx_list : (Try.prog.fieldsOf 69).toList.map (fun f => (f.type, f.offset, f.name == "_")) = [(58, 0, false), (3, 3, false)] := by kernel_rfl
theorem part_nums (x y z b : Int) (w : World) : (part 58 #[.int .i64 x, .int .i64 y, .int .i64 z, .int .i64 b] 0).run Try.prog w = .ok (.agg #[.int .i64 x, .int .i64 y, .int .i64 z]) w := by
  have a3 := Try.isAgg58
  have z3 := Try.sizeOf58
  go_simp
theorem part_bound (x y z b : Int) (w : World) : (part 3 #[.int .i64 x, .int .i64 y, .int .i64 z, .int .i64 b] 3).run Try.prog w = .ok (.int .i64 b) w := by
  have a3 := Try.isAgg3
  have z3 := Try.sizeOf3
  go_simp
theorem two_of {α : Type} {l : List α} (h : l.length = 2) : ∃ a b, l = [a, b] := by
  match l, h with
  | [a, b], _ => exact ⟨a, b, rfl⟩
theorem eq_fx (x y z b x' y' z' b' : Int) (w : World) : (Op.equalIn 10000 69 (.agg #[.int .i64 x, .int .i64 y, .int .i64 z, .int .i64 b]) (.agg #[.int .i64 x', .int .i64 y', .int .i64 z', .int .i64 b'])).run Try.prog w = .ok (decide (x = x' ∧ y = y' ∧ z = z' ∧ b = b')) w := by
  have u3 := Try.underlying3
  rw [show (10000 : Nat) = 9999 + 1 from rfl, run_equalIn_struct w 9999 69 _ _ fx_fields fx_stood]
  have hl := fx_list
  generalize (Try.prog.fieldsOf 69).toList = fs at hl
  have h2 : fs.length = 2 := by have h := congrArg List.length hl; simpa using h
  obtain ⟨f, g, rfl⟩ := two_of h2
  simp only [List.map_cons, List.map_nil, List.cons.injEq, Prod.mk.injEq, and_true] at hl
  obtain ⟨⟨f1, f2, f3⟩, g1, g2, g3⟩ := hl
  have f4 : f.name ≠ "_" := by simpa using f3
  have g4 : g.name ≠ "_" := by simpa using g3
  rw [show (9999 : Nat) = 9997 + 1 + 1 from rfl]
  simp only [Op.eqFields, f4, g4, ne_eq, not_false_eq_true, if_true, f1, f2, g1, g2, Sem.run_bind, part_nums, Result.andThen_ok, eq_arr2]
  by_cases h1 : x = x' ∧ y = y' ∧ z = z'
  · by_cases h2 : b = b' <;> simp [h1, h2, part_bound, run_equalIn_int _ 9998 _ _ _ _ _ u3]
  · simp [h1]
    intro a1 a2 a3
    exact absurd ⟨a1, a2, a3⟩ h1
theorem eq_fx_of {h k : Hf} (hl : h.1.length = k.1.length) (h3 : h.1.length ≤ 3) {q : Bool} (e : decide (h = k) = q) (w : World) : (Op.equalIn 10000 69 (.agg #[.int .i64 (h.1.getD 0 0), .int .i64 (h.1.getD 1 0), .int .i64 (h.1.getD 2 0), .int .i64 h.2]) (.agg #[.int .i64 (k.1.getD 0 0), .int .i64 (k.1.getD 1 0), .int .i64 (k.1.getD 2 0), .int .i64 k.2])).run Try.prog w = .ok q w := by
  rw [eq_fx, fx_eq hl h3, e]
/-- Where the half lies first, or -1. -/
def IdxF (hs : List Hf) (h : Hf) (w : World) (e : Ending) (w' : World) : Prop :=
  ((seenL hs h = false ∧ e = .returned (.int .i64 (-1))) ∨ (seenL hs h = true ∧ ∃ k : Nat, e = .returned (.int .i64 k))) ∧ Below w.heap.size w w'
theorem seen_yes {hs : List Hf} {h : Hf} {k : Nat} (hk : k < hs.length) (e : decide (h = hs[k]) = true) : seenL hs h = true := decide_eq_true (by rw [of_decide_eq_true e]; exact List.getElem_mem hk)
theorem seen_go {hs : List Hf} {h : Hf} {k : Nat} (hk : k < hs.length) (h1 : seenL (hs.take k) h = false) (e : decide (h = hs[k]) = false) : seenL (hs.take (k + 1)) h = false := by
  rw [seen_take hk, h1, Bool.false_or, decide_eq_false_iff_not]
  intro e2
  exact of_decide_eq_false e e2.symm

set_option maxRecDepth 100000 in
set_option maxHeartbeats 800000 in
theorem i_indexf (hs : List Hf) (h : Hf) (lo hi : Nat) (v : Value) (w : World) (hv : OwF 69 lo hi w v hs) (hp : ∀ (k : Nat) (hk : k < hs.length), h.1.length = hs[k].1.length) (h3 : h.1.length ≤ 3) :
    Calls Try.prog 65 #[v, .agg #[.int .i64 (h.1.getD 0 0), .int .i64 (h.1.getD 1 0), .int .i64 (h.1.getD 2 0), .int .i64 h.2]] w (IdxF hs h w) := by
  have HV := Lib.hid hv
  have HP := Lib.hid hp
  obtain ⟨a, c, rfl, hm⟩ := hv.shape
  unfold maxLen at hm
  obtain ⟨x, hx⟩ : ∃ q : Int, h.1.getD 0 0 = q := ⟨_, rfl⟩
  obtain ⟨y, hy⟩ : ∃ q : Int, h.1.getD 1 0 = q := ⟨_, rfl⟩
  obtain ⟨z, hz⟩ : ∃ q : Int, h.1.getD 2 0 = q := ⟨_, rfl⟩
  obtain ⟨t, ht⟩ : ∃ q : Int, h.2 = q := ⟨_, rfl⟩
  rw [hx, hy, hz, ht]
  have E0 := Lib.hid (And.intro hx (And.intro hy (And.intro hz ht)))
  have B0 := Lib.hid (below1 w (.cells #[.int .i64 x, .int .i64 y, .int .i64 z, .int .i64 t] 69))
  have K := Lib.hid (Bk.new w #[.int .i64 x, .int .i64 y, .int .i64 z, .int .i64 t] 69)
  clear hv hp hx hy hz ht
  go_enter Try.func65, Try.ntmps65
  go_wp2
  go_loopw [5, 8] (fun _ i wr => ∃ k : Nat, k ≤ hs.length ∧ i = .int .i64 k ∧ seenL (hs.take k) h = false ∧ Below (w.alloc (.cells #[.int .i64 x, .int .i64 y, .int .i64 z, .int .i64 t] 69)).heap.size (w.alloc (.cells #[.int .i64 x, .int .i64 y, .int .i64 z, .int .i64 t] 69)) wr) (fun _ i _ => hs.length - (RowKit.intOf i).toNat)
  case atStart => exact ⟨0, Nat.zero_le _, rfl, by simp [seenL], Below.refl _ _⟩
  case round =>
    obtain ⟨k, hk, rfl, hsn, hbr⟩ := hrel
    have HSN := Lib.hid hsn
    have HBr := Lib.hid hbr
    have HA := Lib.hid (B0.out.trans (hbr.mono B0.out.size))
    clear hsn
    by_cases hlt : k < hs.length
    · obtain ⟨b, rfl, p1, p2, p3, p4, ⟨d0, d1, d2, d3⟩, _⟩ := (HV.out.below HA.out).at k hlt rfl
      have KB := K.out.below hbr
      have l0 : wr.cell? ⟨w.heap.size, 0, none⟩ = some (.int .i64 x) := KB.cell 0 rfl
      have l1 : wr.cell? ⟨w.heap.size, 1, none⟩ = some (.int .i64 y) := KB.cell 1 rfl
      have l2 : wr.cell? ⟨w.heap.size, 2, none⟩ = some (.int .i64 z) := KB.cell 2 rfl
      have l3 : wr.cell? ⟨w.heap.size, 3, none⟩ = some (.int .i64 t) := KB.cell 3 rfl
      obtain ⟨q, hq⟩ : ∃ q : Bool, decide (h = hs[k]) = q := ⟨_, rfl⟩
      have he := eq_fx_of (HP.out k hlt) h3 hq
      obtain ⟨x', hx'⟩ : ∃ q : Int, hs[k].1.getD 0 0 = q := ⟨_, rfl⟩
      obtain ⟨y', hy'⟩ : ∃ q : Int, hs[k].1.getD 1 0 = q := ⟨_, rfl⟩
      obtain ⟨z', hz'⟩ : ∃ q : Int, hs[k].1.getD 2 0 = q := ⟨_, rfl⟩
      obtain ⟨t', ht'⟩ : ∃ q : Int, hs[k].2 = q := ⟨_, rfl⟩
      rw [hx', hy', hz', ht', E0.out.1, E0.out.2.1, E0.out.2.2.1, E0.out.2.2.2] at he
      rw [hx'] at d0
      rw [hy'] at d1
      rw [hz'] at d2
      rw [ht'] at d3
      have HQ := Lib.hid hq
      clear hq hx' hy' hz' ht' KB hbr p1 p2 p3
      have i1 : (0 : Int) ≤ (k : Int) := by omega
      have i2 : (k : Int) < (hs.length : Int) := by omega
      cases q with
      | true =>
        go_wp2
        go_quiet (fail)
        go_wp2
        go_ret
        exact ⟨.inr ⟨seen_yes hlt HQ.out, k, rfl⟩, below_drewN' HA.out _⟩
      | false =>
        go_wp2
        go_quiet (fail)
        go_wp2
        exact ⟨⟨k + 1, by omega, by go_num, seen_go hlt HSN.out HQ.out, below_drewN' HBr.out _⟩, by simp [RowKit.intOf]; omega⟩
    · obtain rfl : k = hs.length := by omega
      have HF := Lib.hid (show seenL hs h = false by have h := HSN.out; rw [List.take_length] at h; exact h)
      clear hbr
      go_wp2
      go_ret
      exact ⟨.inl ⟨HF.out, rfl⟩, HA.out⟩

set_option maxRecDepth 100000 in
set_option maxHeartbeats 800000 in
theorem i_containsf (hs : List Hf) (h : Hf) (lo hi : Nat) (v : Value) (w : World) (hv : OwF 69 lo hi w v hs) (hp : ∀ (k : Nat) (hk : k < hs.length), h.1.length = hs[k].1.length) (h3 : h.1.length ≤ 3) :
    Calls Try.prog 55 #[v, .agg #[.int .i64 (h.1.getD 0 0), .int .i64 (h.1.getD 1 0), .int .i64 (h.1.getD 2 0), .int .i64 h.2]] w (Quiet w (.bool (seenL hs h))) := by
  have HC := Lib.hid (fun w hv => i_indexf hs h lo hi v w hv hp h3)
  have HV := Lib.hid hv
  obtain ⟨x, hx⟩ : ∃ q : Int, h.1.getD 0 0 = q := ⟨_, rfl⟩
  obtain ⟨y, hy⟩ : ∃ q : Int, h.1.getD 1 0 = q := ⟨_, rfl⟩
  obtain ⟨z, hz⟩ : ∃ q : Int, h.1.getD 2 0 = q := ⟨_, rfl⟩
  obtain ⟨t, ht⟩ : ∃ q : Int, h.2 = q := ⟨_, rfl⟩
  rw [hx, hy, hz, ht] at HC ⊢
  have B0 := Lib.hid (below1 w (.cells #[.int .i64 x, .int .i64 y, .int .i64 z, .int .i64 t] 69))
  clear hv hp hx hy hz ht
  go_enter Try.func55, Try.ntmps55
  go_wp2_with fail
  refine (HC.out _ (HV.out.below B0.out)).mono ?_
  rintro e w1 ⟨⟨hs1, rfl⟩ | ⟨hs1, k, rfl⟩, hb⟩
  · have HS := Lib.hid hs1
    have B1 := Lib.hid (B0.out.trans (hb.mono B0.out.size))
    clear hs1 hb
    go_wp2_with fail
    go_ret
    exact ⟨ret_bool (by rw [HS.out]), B1.out⟩
  · have HS := Lib.hid hs1
    have B1 := Lib.hid (B0.out.trans (hb.mono B0.out.size))
    clear hs1 hb
    have h0 : (0 : Int) ≤ (k : Int) := by omega
    go_wp2_with fail
    go_ret
    exact ⟨ret_bool (by rw [HS.out]), B1.out⟩

/-- What the copy of a list of fixed halves leaves. -/
def MadeF2 (w : World) (hs : List Hf) (e : Ending) (w' : World) : Prop := (∃ v, e = .returned v ∧ OwF 69 w.heap.size w'.heap.size w' v hs) ∧ Below w.heap.size w w'
theorem flatF_one (hs : List Hf) : ∀ u ∈ flatF hs, u.oneCell' = true := by
  induction hs with
  | nil => intro u hu; simp [flatF] at hu
  | cons h hs ih =>
    intro u hu
    simp only [flatF, List.mem_cons] at hu
    rcases hu with rfl | rfl | rfl | rfl | hu
    · rfl
    · rfl
    · rfl
    · rfl
    · exact ih u hu
set_option maxRecDepth 100000 in
set_option maxHeartbeats 800000 in
theorem i_clonef (hs : List Hf) (lo hi g c : Nat) (w : World) (hv : OwF 69 lo hi w (.slice (some ⟨g, 0, none⟩) hs.length c) hs) (hl : hs.length ≤ 1048576) :
    Calls Try.prog 54 #[.slice (some ⟨g, 0, none⟩) hs.length c] w (MadeF2 w hs) := by
  have q22 : ∀ (w : World) (a : Option Addr) (n c n' c' : Nat), (binOp .eql 66 (.slice a n c) (.slice none n' c')).run Try.prog w = .ok (.bool a.isNone) w := fun w a n c n' c' => Lib.run_eql_slice_nil w _ _ a n c n' c' Try.underlying66
  obtain ⟨i0, hi', hz0, hz1, hz2⟩ := info_parts info_fx
  have HV := Lib.hid hv
  have HB0 := Lib.hid (below1 w (.cells #[] 69))
  have HO0 := Lib.hid (show (w.alloc (.cells #[] 69)).ownsRow w.heap.size 69 4 (.slice (some ⟨w.heap.size, 0, none⟩) 0 0) 0 [] from ⟨rfl, .inr ⟨w.heap.size, 0, #[], rfl, Nat.le_refl _, heap_alloc_new w _, Nat.le_refl _, by unfold maxLen; omega, rfl, rfl⟩⟩)
  clear hv
  go_enter Try.func54, Try.ntmps54
  go_wp2_with (at_builtin; refine wpList_append_own _ rfl _ _ 66 rfl w.heap.size 69 i0 _ 4 32 Try.underlying66 hi' hz0 hz1 hz2 rfl (by decide) _ _ _ rfl HO0.out ⟨g, 0, none⟩ hs.length c (flatF hs) rfl ?qc1 ?qc2 ?qc3 ?qc4 ?qc5 ?qc6 ?_)
  case qc1 => exact flatF_len hs
  case qc2 =>
    intro j u hj
    have hlt := lt_of_get hj
    rw [flatF_len] at hlt
    have h1 := (HV.out.below HB0.out).1.cellAt j hlt
    have h0 : (⟨g, 0, none⟩ : Addr).add j = ⟨g, j, none⟩ := by unfold Addr.add; split <;> simp_all
    rw [h0, h1]; exact hj
  case qc3 => exact flatF_one hs
  case qc4 => unfold maxLen; omega
  case qc5 => omega
  case qc6 => simp
  intro v' w1 hown hgrow hnil
  have HW := Lib.hid hown
  have HB := Lib.hid (HB0.out.grown hgrow (by simp) (by intro k hk; simp [Value.ownBlock] at hk; omega))
  clear hown hgrow hnil
  go_wp2
  go_ret
  refine ⟨⟨v', rfl, ?_, ?_⟩, HB.out⟩
  · exact HW.out
  · intro b hb
    exact (HW.out.lt b hb).2
end Go.Proofs.Ytflkalgofkpdbaa
