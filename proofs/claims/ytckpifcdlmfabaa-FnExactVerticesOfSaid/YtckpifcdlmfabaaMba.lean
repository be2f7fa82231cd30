/- The program's lists of halves of fixed length: made out of a region. -/
import Derived.Test.YtckpifcdlmfabaaFx
import Derived.Test.YtckpifcdlmfabaaMaw
import Derived.Test.YtckpifcdlmfabaaMeet
import Derived.Test.YtckpifcdlmfabaaMax
import Derived.Laws.StructEq
namespace Go.Proofs.Ytckpifcdlmfabaa
open Go.RowKit Go.Lib

/-- What a function that makes a list of fixed halves leaves. -/
def MadeF (w : World) (hs : List Hf) (e : Ending) (w' : World) : Prop := (∃ g c, e = .returned (.slice (some ⟨g, 0, none⟩) hs.length c) ∧ OwF 59 w.heap.size w'.heap.size w' (.slice (some ⟨g, 0, none⟩) hs.length c) hs) ∧ Below w.heap.size w w'
/-- The first k are there, the others zero. -/
def FixI (w : World) (n : Int) (U : Value) (hs : List Hf) (k : Nat) (wr : World) : Prop :=
  Bk wr w.heap.size #[.int .i64 n, U] 30 ∧ OwF 59 (w.heap.size + 1) (w.heap.size + 2) wr (.slice (some ⟨w.heap.size + 1, 0, none⟩) hs.length hs.length) (filledH hs k) ∧ Below w.heap.size w wr ∧ w.heap.size + 2 ≤ wr.heap.size
set_option maxRecDepth 100000 in
set_option maxHeartbeats 3200000 in
theorem i_fixed (r : Rgn) (v : Value) (w : World) (hv : Rg w v r) (hp : ∀ (k : Nat) (hk : k < r.2.length), 1 ≤ r.2[k].1.length ∧ r.2[k].1.length ≤ 3) (hl : r.2.length ≤ 8) :
    Calls Try.prog 50 #[v] w (MadeF w r.2) := by
  obtain ⟨n, hs'⟩ := r
  obtain ⟨u, rfl, hss⟩ := hv
  simp only at hss hp hl ⊢
  have HV := Lib.hid hss
  have HP := Lib.hid hp
  obtain ⟨a, c, rfl, hm⟩ := hss.shape
  unfold maxLen at hm
  obtain ⟨i0, hi, hz0, hz1, hz2⟩ := info_parts info_fx
  have K := Lib.hid (Bk.new w #[.int .i64 n, .slice a hs'.length c] 30)
  have B0 := Lib.hid (below1 w (.cells #[.int .i64 n, .slice a hs'.length c] 30))
  obtain ⟨⟨l0, l1⟩, -⟩ := K.out.two
  clear hss hp
  go_enter Try.func50, Try.ntmps50
  go_wp2_with (at_make; refine wpList_make_full _ rfl _ _ 60 rfl (w.heap.size + 1) 59 i0 _ 4 Try.underlying60 hi hz0 hz1 .i64 .i64 _ _ hs'.length rfl rfl rfl rfl (by rw [hz2]; omega) (by unfold maxLen; omega) (by simp) ?_; intro w1 hown hgrow; have hbel : Below (w.alloc (.cells #[.int .i64 n, .slice a hs'.length c] 30)).heap.size (w.alloc (.cells #[.int .i64 n, .slice a hs'.length c] 30)) w1 := (Below.refl _ _).grown hgrow (Nat.le_refl _) (fun _ h => by cases h); obtain ⟨⟨q0, q1⟩, -⟩ := (K.out.below hbel).two)
  have hsz1 : w.heap.size + 1 < w1.heap.size := by have := (hown.lt _ rfl).2; simpa using this
  rw [show (Value.agg #[.int .i64 0, .int .i64 0, .int .i64 0, .int .i64 0]).cells = #[Value.int .i64 0, .int .i64 0, .int .i64 0, .int .i64 0] from rfl, show (w.alloc (.cells #[.int .i64 n, .slice a hs'.length c] 30)).heap.size = w.heap.size + 1 by simp] at hown
  have HI := Lib.hid (show FixI w n (.slice a hs'.length c) hs' 0 w1 from ⟨K.out.below hbel, by rw [filledH_zero]; exact OwF.zeros hown (Nat.le_refl _) (Nat.lt_succ_self _), B0.out.trans (hbel.mono B0.out.size), hsz1⟩)
  clear hown hgrow hbel hsz1 q0 q1 l0 l1 hi hz0 hz1 hz2
  go_loopw [13] (fun i wr => ∃ k : Nat, k ≤ hs'.length ∧ i = .int .i64 k ∧ FixI w n (.slice a hs'.length c) hs' k wr) (fun i _ => hs'.length - (RowKit.intOf i).toNat)
  case atStart => exact ⟨0, Nat.zero_le _, rfl, HI.out⟩
  case round =>
    obtain ⟨k, hk, rfl, hci⟩ := hrel
    have HC := Lib.hid hci
    clear hci
    by_cases hlt : k < hs'.length
    · obtain ⟨b, off, y, rfl, _, hb2, hcell, hcell1, hsx⟩ := HV.out.half k hlt rfl
      rw [← HC.out.2.2.1.cell (p := ⟨b, off + k * 2, none⟩) hb2] at hcell
      rw [← HC.out.2.2.1.cell (p := ⟨b, off + k * 2 + 1, none⟩) hb2] at hcell1
      have HX := Lib.hid (hsx.below HC.out.2.2.1)
      obtain ⟨xa, xc, rfl, _, _⟩ := hsx.shape
      rw [intVals_len] at hcell HX
      have HPk := Lib.hid (HP.out k hlt)
      have HF := Lib.hid (filledH_step hs' k hlt)
      have HFl := Lib.hid (filledH_len hs' k hk)
      have i1 : (0 : Int) ≤ (k : Int) := by omega
      have i2 : (k : Int) < (hs'.length : Int) := by omega
      have hnb := below1 wr (.cells #[.slice xa hs'[k].1.length xc, .int .i64 hs'[k].2] 99)
      have HNB := Lib.hid hnb
      have KH := Lib.hid (Bk.new wr #[.slice xa hs'[k].1.length xc, .int .i64 hs'[k].2] 99)
      clear hsx hnb hb2
      go_wp2
      refine wgen ?_
      intro W hW
      have KW := Lib.hid (show Bk W wr.heap.size #[.slice xa hs'[k].1.length xc, .int .i64 hs'[k].2] 99 ∧ Below wr.heap.size wr W by rw [hW]; exact ⟨KH.out, HNB.out⟩)
      clear hW KH HNB hcell hcell1
      obtain ⟨⟨m0, m1⟩, -⟩ := KW.out.1.two
      refine T_begin (z := fun k => 7 < k) (S := fun (w' : World) => w'.cell? ⟨wr.heap.size, 0, none⟩ = some (.slice xa hs'[k].1.length xc) ∧ w'.cell? ⟨wr.heap.size, 1, none⟩ = some (.int .i64 hs'[k].2)) (by kernel_rfl) ?_
      show wpAnyT _ _ _ _ _ _ 10 _ _ _
      have hS0 := Lib.hid (show (fun (w' : World) => w'.cell? ⟨wr.heap.size, 0, none⟩ = some (.slice xa hs'[k].1.length xc) ∧ w'.cell? ⟨wr.heap.size, 1, none⟩ = some (.int .i64 hs'[k].2)) _ from ⟨m0, m1⟩)
      refine T_take (i := 0) (v := .slice (some ⟨w.heap.size + 1, 0, none⟩) hs'.length hs'.length) rfl (by kernel_rfl) (by kernel_rfl) (by kernel_rfl) (by kernel_rfl) (fun _ _ _ h => h) hS0.out rfl (fun w' hS' => by (try dsimp only at hS'); go_simp) ?_
      refine T_take (i := 1) (v := .int .i64 k) rfl (by kernel_rfl) (by kernel_rfl) (by kernel_rfl) (by kernel_rfl) (fun _ _ _ h => h) hS0.out rfl (fun w' hS' => by (try dsimp only at hS'); go_simp) ?_
      refine T_take (i := 2) (v := .pointer (some ⟨wr.heap.size, 0, none⟩)) rfl (by kernel_rfl) (by kernel_rfl) (by kernel_rfl) (by kernel_rfl) (fun _ _ _ h => h) hS0.out rfl (fun w' hS' => by (try dsimp only at hS'); go_simp) ?_
      refine T_take (i := 3) (v := .slice xa hs'[k].1.length xc) rfl (by kernel_rfl) (by kernel_rfl) (by kernel_rfl) (by kernel_rfl) (fun _ _ _ h => h) hS0.out rfl (fun w' hS' => by (try dsimp only at hS'); go_simp) ?_
      refine T_take (i := 5) (v := .pointer (some ⟨wr.heap.size, 1, none⟩)) rfl (by kernel_rfl) (by kernel_rfl) (by kernel_rfl) (by kernel_rfl) (fun _ _ _ h => h) hS0.out rfl (fun w' hS' => by (try dsimp only at hS'); go_simp) ?_
      refine T_take (i := 6) (v := .int .i64 hs'[k].2) rfl (by kernel_rfl) (by kernel_rfl) (by kernel_rfl) (by kernel_rfl) (fun _ _ _ h => h) hS0.out rfl (fun w' hS' => by (try dsimp only at hS'); go_simp) ?_
      refine T_step (i := 4) rfl (by kernel_rfl) rfl rfl ?_
      intro K hK
      go_simp
      refine (i_num hs'[k].1 _ _ _ (pad_fx _ HPk.out.1 HPk.out.2) HPk.out.1 HPk.out.2 _ _ (HX.out.below (KW.out.2.drew))).mono ?_
      rintro e w4 ⟨rfl, hb⟩
      have hb : Below W.heap.size W w4 := (Below.refl _ _).drew.trans hb
      have s1 := (KW.out.1.below hb).two.1
      have HB4 := Lib.hid (KW.out.2.trans (hb.mono KW.out.2.size))
      clear hb m0 m1 hS0
      refine hK.out _ _ s1 ?_
      clear hK K
      have hS1 := Lib.hid s1
      clear s1
      refine T_take (i := 7) (v := .agg #[.int .i64 (hs'[k].1.getD 0 0), .int .i64 (hs'[k].1.getD 1 0), .int .i64 (hs'[k].1.getD 2 0), .int .i64 hs'[k].2]) rfl (by kernel_rfl) (by kernel_rfl) (by kernel_rfl) (by kernel_rfl) (fun _ _ _ h => h) hS1.out rfl (fun w' hS' => by (try dsimp only at hS'); go_simp) ?_
      refine T_anytake (i := 8) (v := .pointer (some ⟨w.heap.size + 1, k * 4, none⟩)) rfl (by kernel_rfl) (by kernel_rfl) (by kernel_rfl) rfl (fun _ _ _ h => h) rfl (fun w' => by go_simp) ?_
      obtain ⟨b', e1, p1, p2, p3, _, ⟨d0, d1, d2, d3⟩, hfr⟩ := (HC.out.2.1.below HB4.out).at k (by rw [HFl.out]; exact hlt) rfl
      simp only [Option.some.injEq, Addr.mk.injEq, and_true] at e1
      subst e1
      have f0 := hfr (k * 4)
      have f1 := hfr (k * 4 + 1)
      have f2 := hfr (k * 4 + 2)
      have f3 := hfr (k * 4 + 3)
      clear hfr
      refine T_last (i := 9) rfl (by kernel_rfl) (by kernel_rfl) rfl rfl ?_
      go_simp
      go_wp2
      refine ⟨⟨k + 1, by omega, by go_num, ?_⟩, by simp [RowKit.intOf]; omega⟩
      have h5 := (HC.out.2.1.below HB4.out).put k (by rw [HFl.out]; exact hlt) hs'[k]
      rw [HF.out] at h5
      have hz := HC.out.2.2.2
      exact ⟨((((HC.out.1.below HB4.out).other (by simp) _).other (by simp) _).other (by simp) _).other (by simp) _, h5, ((((HC.out.2.2.1.trans (HB4.out.mono HC.out.2.2.1.size)).setCell (by simp) _).setCell (by simp) _).setCell (by simp) _).setCell (by simp) _, by have := HB4.out.size; simp [World.setCell]; omega⟩
    · obtain rfl : k = hs'.length := by omega
      have HO := Lib.hid (show OwF 59 (w.heap.size + 1) (w.heap.size + 2) wr (.slice (some ⟨w.heap.size + 1, 0, none⟩) hs'.length hs'.length) hs' by have h := HC.out.2.1; rw [filledH_all] at h; exact h)
      go_wp2
      go_ret
      exact ⟨⟨_, _, rfl, HO.out.mono (by omega) HC.out.2.2.2⟩, HC.out.2.2.1⟩
end Go.Proofs.Ytckpifcdlmfabaa
/- The program's region out of halves of fixed length. -/
namespace Go.Proofs.Ytckpifcdlmfabaa
open Go.RowKit Go.Lib

/-- A region with these halves, if they are one. -/
def regR (n : Int) (hs : List Hf) : Rgn × Bool := if regOk n hs = true then ((n, hs), true) else ((0, []), false)
theorem got_mk2 {w : World} {r r' : Rgn × Bool} {e : Ending} {w' : World} (h : r' = r) (g : GotG w r e w') : GotG w r' e w' := by subst h; exact g
/-- The numbers in a box of four cells, the first n of the first three. -/
theorem sl_fx {w : World} {B : Nat} {h : Hf} {T : TypeId} (n : Nat) (h1 : h.1.length = n) (h0 : 1 ≤ n) (h3 : n ≤ 3) (hb : Bk w B #[.int .i64 (h.1.getD 0 0), .int .i64 (h.1.getD 1 0), .int .i64 (h.1.getD 2 0), .int .i64 h.2] T) : Sl w (.slice (some ⟨B, 0, none⟩) n 3) (intVals h.1) := by
  subst h1
  obtain ⟨v, z⟩ := h
  simp only at h0 h3 hb ⊢
  refine .inr ⟨fun e => by rw [← intVals_len, e] at h0; simp at h0, B, 0, 3, by rw [intVals_len], by rw [intVals_len]; exact h3, by rw [intVals_len]; unfold maxLen; omega, hb.lt, fun i x hx => ?_⟩
  have hi := lt_of_get hx
  rw [intVals_len] at hi
  rw [intVals_get v i hi] at hx
  obtain rfl := Option.some.inj hx
  rw [Nat.zero_add]
  rcases (by omega : i = 0 ∨ i = 1 ∨ i = 2) with rfl | rfl | rfl
  · exact hb.cell 0 (by simp [List.getElem?_eq_getElem hi])
  · exact hb.cell 1 (by simp [List.getElem?_eq_getElem hi])
  · exact hb.cell 2 (by simp [List.getElem?_eq_getElem hi])
/-- What regionOf's loop keeps: the answer's box, the region's box, its halves. -/
def OfI (w : World) (n : Int) (hs : List Hf) (u : Value) (wr : World) : Prop :=
  Bk wr w.heap.size #[.int .i64 0, .slice none 0 0] 30 ∧ Bk wr (w.heap.size + 1) #[.int .i64 n, u] 30 ∧ OwH 99 3 (w.heap.size + 2) wr.heap.size wr u hs ∧ Below w.heap.size w wr ∧ w.heap.size + 2 ≤ wr.heap.size
end Go.Proofs.Ytckpifcdlmfabaa
/- The program's MoveRegion. -/
namespace Go.Proofs.Ytckpifcdlmfabaa
open Go.RowKit Go.Lib

/-- What MoveRegion's loop keeps: the region's box, the answer's box, the halves of fixed length. -/
def IMoveI (w w2 : World) (n : Int) (U V : Value) (hs : List Hf) (wr : World) : Prop :=
  Bk wr w.heap.size #[.int .i64 n, U] 30 ∧ Bk wr (w.heap.size + 1) #[.int .i64 0, .slice none 0 0] 30 ∧ OwF 59 (w.heap.size + 2) w2.heap.size wr V hs ∧ Below w.heap.size w wr ∧ w.heap.size + 2 ≤ wr.heap.size ∧ w2.heap.size ≤ wr.heap.size
theorem moved_lens {n : Int} {hs : List Hf} {v : List Int} (h : regOk n hs = true) (k : Nat) (hk : k < (moveL hs v).length) : ((moveL hs v)[k].1.length : Int) = n := by
  rw [move_len] at hk
  have h1 := halfOk_t ((regOk_t h).2.2.2 k hk)
  have e : (moveL hs v)[k] = moveH v hs[k] := by simp [moveL]
  rw [e]
  exact h1.2.2.1

end Go.Proofs.Ytckpifcdlmfabaa
/- The program's search among halves of fixed length. -/
namespace Go.Proofs.Ytckpifcdlmfabaa
open Go.RowKit Go.Lib

theorem eq_arr2 (d : Nat) (x y z x' y' z' : Int) (w : World) : (Op.equalIn (d + 1 + 1) 57 (.agg #[.int .i64 x, .int .i64 y, .int .i64 z]) (.agg #[.int .i64 x', .int .i64 y', .int .i64 z'])).run Try.prog w = .ok (decide (x = x' ∧ y = y' ∧ z = z')) w := by
  have u3 := Try.underlying3
  have a3 := Try.isAgg3
  have z3 := Try.sizeOf3
  rw [Op.equalIn]
  simp only [Sem.run_bind, run_underlying Try.underlying57, Result.andThen_ok]
  simp only [Std.Legacy.Range.forIn_eq_forIn_range', Std.Legacy.Range.size, Nat.sub_zero, Nat.add_sub_cancel, Nat.div_one, List.range'_succ, List.range'_zero, List.forIn_cons, List.forIn_nil]
  go_simp
  by_cases h1 : x = x' <;> by_cases h2 : y = y' <;> by_cases h3 : z = z' <;> simp [h1, h2, h3]
theorem fx_fields : Try.prog.underlying 59 = some (.struct (Try.prog.fieldsOf 59)) := by kernel_rfl
theorem fx_stood : Try.prog.stoodInHeld 59 = false := by kernel_rfl
theorem fx_list : (Try.prog.fieldsOf 59).toList.map (fun f => (f.type, f.offset, f.name == "_")) = [(57, 0, false), (3, 3, false)] := by kernel_rfl
theorem part_nums (x y z b : Int) (w : World) : (part 57 #[.int .i64 x, .int .i64 y, .int .i64 z, .int .i64 b] 0).run Try.prog w = .ok (.agg #[.int .i64 x, .int .i64 y, .int .i64 z]) w := by
  have a3 := Try.isAgg57
  have z3 := Try.sizeOf57
  go_simp
theorem part_bound (x y z b : Int) (w : World) : (part 3 #[.int .i64 x, .int .i64 y, .int .i64 z, .int .i64 b] 3).run Try.prog w = .ok (.int .i64 b) w := by
  have a3 := Try.isAgg3
  have z3 := Try.sizeOf3
  go_simp
theorem two_of {α : Type} {l : List α} (h : l.length = 2) : ∃ a b, l = [a, b] := by
  match l, h with
  | [a, b], _ => exact ⟨a, b, rfl⟩
theorem eq_fx (x y z b x' y' z' b' : Int) (w : World) : (Op.equalIn 10000 59 (.agg #[.int .i64 x, .int .i64 y, .int .i64 z, .int .i64 b]) (.agg #[.int .i64 x', .int .i64 y', .int .i64 z', .int .i64 b'])).run Try.prog w = .ok (decide (x = x' ∧ y = y' ∧ z = z' ∧ b = b')) w := by
  have u3 := Try.underlying3
  rw [show (10000 : Nat) = 9999 + 1 from rfl, run_equalIn_struct w 9999 59 _ _ fx_fields fx_stood]
  have hl := fx_list
  generalize (Try.prog.fieldsOf 59).toList = fs at hl
  have h2 : fs.length = 2 := by have h := congrArg List.length hl; simpa using h
  obtain ⟨f, g, rfl⟩ := two_of h2
  simp only [List.map_cons, List.map_nil, List.cons.injEq, Prod.mk.injEq, and_true] at hl
  obtain ⟨⟨f1, f2, f3⟩, g1, g2, g3⟩ := hl
  have f4 : f.name ≠ "_" := by simpa using f3
  have g4 : g.name ≠ "_" := by simpa using g3
  rw [show (9999 : Nat) = 9997 + 1 + 1 from rfl]
  simp only [Op.eqFields, f4, g4, ne_eq, not_false_eq_true, if_true, f1, f2, g1, g2, Sem.run_bind, part_nums, Result.andThen_ok, eq_arr2]
  by_cases h1 : x = x' ∧ y = y' ∧ z = z'
  · by_cases h2 : b = b' <;> simp [h1, h2, part_bound, run_equalIn_int _ 9998 _ _ _ _ _ u3]
  · simp [h1]
    intro a1 a2 a3
    exact absurd ⟨a1, a2, a3⟩ h1
theorem eq_fx_of {h k : Hf} (hl : h.1.length = k.1.length) (h3 : h.1.length ≤ 3) {q : Bool} (e : decide (h = k) = q) (w : World) : (Op.equalIn 10000 59 (.agg #[.int .i64 (h.1.getD 0 0), .int .i64 (h.1.getD 1 0), .int .i64 (h.1.getD 2 0), .int .i64 h.2]) (.agg #[.int .i64 (k.1.getD 0 0), .int .i64 (k.1.getD 1 0), .int .i64 (k.1.getD 2 0), .int .i64 k.2])).run Try.prog w = .ok q w := by
  rw [eq_fx, fx_eq hl h3, e]
/-- Where the half lies first, or -1. -/
def IdxF (hs : List Hf) (h : Hf) (w : World) (e : Ending) (w' : World) : Prop :=
  ((seenL hs h = false ∧ e = .returned (.int .i64 (-1))) ∨ (seenL hs h = true ∧ ∃ k : Nat, e = .returned (.int .i64 k))) ∧ Below w.heap.size w w'
theorem seen_yes {hs : List Hf} {h : Hf} {k : Nat} (hk : k < hs.length) (e : decide (h = hs[k]) = true) : seenL hs h = true := decide_eq_true (by rw [of_decide_eq_true e]; exact List.getElem_mem hk)
theorem seen_go {hs : List Hf} {h : Hf} {k : Nat} (hk : k < hs.length) (h1 : seenL (hs.take k) h = false) (e : decide (h = hs[k]) = false) : seenL (hs.take (k + 1)) h = false := by
  rw [seen_take hk, h1, Bool.false_or, decide_eq_false_iff_not]
  intro e2
  exact of_decide_eq_false e e2.symm

/-- What the copy of a list of fixed halves leaves. -/
def MadeF2 (w : World) (hs : List Hf) (e : Ending) (w' : World) : Prop := (∃ v, e = .returned v ∧ OwF 59 w.heap.size w'.heap.size w' v hs) ∧ Below w.heap.size w w'
theorem flatF_one (hs : List Hf) : ∀ u ∈ flatF hs, u.oneCell' = true := by
  induction hs with
  | nil => intro u hu; simp [flatF] at hu
  | cons h hs ih =>
    intro u hu
    simp only [flatF, List.mem_cons] at hu
    rcases hu with rfl | rfl | rfl | rfl | hu
    · rfl
    · rfl
    · rfl
    · rfl
    · exact ih u hu
end Go.Proofs.Ytckpifcdlmfabaa
/- The program's MeetRegions. -/
namespace Go.Proofs.Ytckpifcdlmfabaa
open Go.RowKit Go.Lib
theorem OwF.grown {T : TypeId} {lo hi : Nat} {w w' : World} {v : Value} {hs : List Hf} {r : Option Nat} (h : OwF T lo hi w v hs) (hg : w.grownBy w' r) (hne : ∀ b, v.ownBlock = some b → some b ≠ r) : OwF T lo hi w' v hs := by
  obtain ⟨⟨h1, h2⟩, h3⟩ := h
  refine ⟨⟨h1, ?_⟩, h3⟩
  rcases h2 with h2 | ⟨g, cap, cur, rfl, hg', hh, hr⟩
  · exact .inl h2
  · exact .inr ⟨g, cap, cur, rfl, hg', by rw [hg.block g (lt_of_heap hh) (hne g rfl)]; exact hh, hr⟩
/-- append(list, fixed half) at a plain list of operations. -/
theorem list_app_fx {ops : Array Oper} {rest : List Oper} {o : Oper} {a : Act} {w : World} {Q : Exit → Act → World → Prop} (hgd : o.guard = none) (s x : Operand)
    (ho : o.op = .call { callee := .builtin .append, args := #[s, x], argTypes := #[60, 60] })
    (lo hi : Nat) (v : Value) (hs : List Hf) (h : Hf) (hv : a.eval s = v) (hown : OwF 59 lo hi w v hs)
    (H : Nat) (hx : a.eval x = .slice (some ⟨H, 0, none⟩) 1 1) (hnew : w.heap[H]? = some (.cells #[.int .i64 (h.1.getD 0 0), .int .i64 (h.1.getD 1 0), .int .i64 (h.1.getD 2 0), .int .i64 h.2] 59 (0, 0)))
    (hn : hs.length ≤ 1099511627776) (hlo : lo ≤ w.heap.size)
    (k : ∀ g cap w', OwF 59 lo w'.heap.size w' (.slice (some ⟨g, 0, none⟩) (hs.length + 1) cap) (hs ++ [h]) → Below lo w w' → w.grownBy w' v.ownBlock → (v.ownBlock = some g ∨ g = w.heap.size) → wpList Try.prog ops Q rest (a.put o.dst (.slice (some ⟨g, 0, none⟩) (hs.length + 1) cap)) w') :
    wpList Try.prog ops Q (o :: rest) a w := by
  obtain ⟨i0, hi', hz0, hz1, hz2⟩ := info_parts info_fx
  refine wpList_append_lies w hgd s x 60 ho lo 59 i0 _ 4 32 Try.underlying60 hi' hz0 hz1 hz2 rfl (by omega) v hs.length (flatF hs) hv hown.1 ⟨H, 0, none⟩ 1 1 (flatF [h]) hx rfl (World.news_of_block (cs := #[.int .i64 (h.1.getD 0 0), .int .i64 (h.1.getD 1 0), .int .i64 (h.1.getD 2 0), .int .i64 h.2]) hnew) (flatF_one [h]) (by omega) (by unfold maxLen; omega) (by omega) hlo w.heap.size rfl ?_
  intro g cap w' k1 k2 k3 k4
  refine k g cap w' ⟨?_, fun b hb => ?_⟩ ((Below.refl lo w).grown k2 hlo fun j hj => (hown.1.lt j hj).1) k2 k3
  · rw [flatF_append, List.length_append]; exact k1
  · exact (k1.lt b hb).2
theorem meet_lens {n : Int} {hs ks : List Hf} (h1 : regOk n hs = true) (h2 : regOk n ks = true) (m : Nat) (k : Nat) (hk : k < (hs ++ newL hs (ks.take m)).length) : ((hs ++ newL hs (ks.take m))[k].1.length : Int) = n := by
  have hm := List.getElem_mem hk
  generalize (hs ++ newL hs (ks.take m))[k] = z at hm
  have key : z ∈ hs ∨ z ∈ ks := by
    rcases List.mem_append.1 hm with h | h
    · exact .inl h
    · exact .inr (List.mem_of_mem_take (List.mem_filter.1 h).1)
  rcases key with h | h
  · obtain ⟨i, hi, rfl⟩ := List.mem_iff_getElem.1 h
    exact (halfOk_t ((regOk_t h1).2.2.2 i hi)).2.2.1
  · obtain ⟨i, hi, rfl⟩ := List.mem_iff_getElem.1 h
    exact (halfOk_t ((regOk_t h2).2.2.2 i hi)).2.2.1

/-- What MeetRegions' loop keeps: the boxes of the first region and of the answer, three lists of halves of fixed length. -/
def AllI (w w2 w3 w4 w5 : World) (n : Int) (X F L V : Value) (hs ks ms : List Hf) (wr : World) : Prop :=
  Bk wr w.heap.size #[.int .i64 n, X] 30 ∧ Bk wr (w.heap.size + 2) #[.int .i64 0, .slice none 0 0] 30 ∧ OwF 59 w2.heap.size w3.heap.size wr F hs ∧ OwF 59 w4.heap.size w5.heap.size wr L ks ∧
  OwF 59 w3.heap.size wr.heap.size wr V ms ∧ (∀ b, V.ownBlock = some b → b < w4.heap.size ∨ w5.heap.size ≤ b) ∧ Below w.heap.size w wr ∧ w5.heap.size ≤ wr.heap.size
theorem AllI.below {w w2 w3 w4 w5 : World} {n : Int} {X F L V : Value} {hs ks ms : List Hf} {wr wr' : World} (h : AllI w w2 w3 w4 w5 n X F L V hs ks ms wr) (hb : Below wr.heap.size wr wr') : AllI w w2 w3 w4 w5 n X F L V hs ks ms wr' :=
  ⟨h.1.below hb, h.2.1.below hb, h.2.2.1.below hb, h.2.2.2.1.below hb, (h.2.2.2.2.1.below hb).mono (Nat.le_refl _) hb.size, h.2.2.2.2.2.1, h.2.2.2.2.2.2.1.trans (hb.mono h.2.2.2.2.2.2.1.size), Nat.le_trans h.2.2.2.2.2.2.2 hb.size⟩

end Go.Proofs.Ytckpifcdlmfabaa
