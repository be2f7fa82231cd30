/- FnExactParsePolygon holds for every input. Conditions: the listed package variables hold what the program text lays. -/
import Derived.Test.YtoekgcafhcamjaaGreatDoorPgPv
import Derived.Test.YtoekgcafhcamjaaGreatDoorRowTo
import Derived.Test.YtoekgcafhcamjaaGreatDoorRowEq
import Derived.Test.YtoekgcafhcamjaaGreatDoorRowMark
import Derived.Test.YtoekgcafhcamjaaGreatDoorMad
import Derived.Test.YtoekgcafhcamjaaGreatDoorLaw
import Derived.Test.YtoekgcafhcamjaaGreatDoorCards
import Derived.Test.YtoekgcafhcamjaaGreatDoorTie
import Derived.Deep.DeepHandedRow
import Derived.Deep.DeepWitnessRowRef
import Derived.Lib.LaidTab
import Derived.Lib.LaidIn
import Derived.SevenTiedAt
import Derived.Stop.LaidErr
import Derived.LaidLaws
namespace Go.Proofs.YtoekgcafhcamjaaGreatDoor.fnExactParsePolygon
open Go.ChangeShapes Go.WideShapes Go.ChangeAt Go.RowKit Go.Lib
open Go.ChangeMaps (open_string shut_string)
theorem gPowType : (Tryz.prog.globals[(0 : Nat)]?).map (·.type) = some 189 := by kernel_rfl
theorem cellsPow : Tryz.prog.cellsOf 189 = 20 := by kernel_rfl
theorem cellsU64 : Tryz.prog.cellsOf 133 = 1 := by kernel_rfl
theorem pow_of {W : World} (h : laidMetH Tryz.prog Rows.fnExactParsePolygonRow.laid W) : HasPow W := by
  have h0 : laidMet Tryz.prog Rows.fnExactParsePolygonRow.laid W := h
  have h2 := laidMet.tail (laidMet.tail (h0))
  exact Lib.tabIs_of_head gPow gPowType Tryz.underlying189 Tryz.underlying133 cellsU64 cellsPow h2

theorem starName : "*" ++ "errors.errorString" = "*errors.errorString" := by decide
theorem starRow (u : TypeId) (h : Tryz.prog.typeName? 3 u = some "*errors.errorString") : u = 220 :=
  typeName_ptr_named (nm := "errors.errorString") (by rw [starName]; kernel_rfl) (by kernel_rfl) (by decide) u (by rw [starName]; exact h)
/-- What the row's list gives. -/
theorem vars_of {W : World} (h : laidMetH Tryz.prog Rows.fnExactParsePolygonRow.laid W) : Vars W := by
  have h0 : laidMet Tryz.prog Rows.fnExactParsePolygonRow.laid W := h
  have h3 := laidMet.tail (laidMet.tail (laidMet.tail (laidMet.tail (h0))))
  have h4 := laidMet.tail (laidMet.tail (laidMet.tail (laidMet.tail (laidMet.tail (h0)))))
  obtain ⟨a3, t3, hv3, _⟩ := laid_sentinel (g := 5) h3 (by kernel_rfl) (by kernel_rfl) Tryz.underlying159 starRow Tryz.underlying220 Tryz.underlying222 rfl rfl Tryz.underlying9 (by kernel_rfl) (by kernel_rfl)
  obtain ⟨a4, t4, hv4, _⟩ := laid_sentinel (g := 4) h4 (by kernel_rfl) (by kernel_rfl) Tryz.underlying159 starRow Tryz.underlying220 Tryz.underlying222 rfl rfl Tryz.underlying9 (by kernel_rfl) (by kernel_rfl)
  exact ⟨pow_of h, ⟨_, _, hv4⟩, ⟨_, _, hv3⟩⟩

theorem max_of {W : World} (h : W.ShapedOpen Tryz.prog) : HasMax W := Tryz.laysM146.s1_3 W h

set_option linter.unusedVariables false in
set_option maxRecDepth 100000 in
set_option maxHeartbeats 400000 in
theorem walk_long0 (s : ByteArray) (w : World) (ss : s.size ≤ maxLen)  (hl : 1048576 < s.size) :
    Calls Tryz.prog 4 #[.string s] w fun e w' => e = .returned (.bool true) ∧ Below w.heap.size w w' := by
  unfold maxLen at ss
  go_enter Tryz.func4, Tryz.ntmps4
  go_wp2_with fail
  go_ret
  exact ⟨rfl, Below.refl _ _⟩

set_option linter.unusedVariables false in
set_option maxRecDepth 100000 in
set_option maxHeartbeats 1600000 in
theorem walk_short (s : ByteArray) (w : World)   (ls : s.size ≤ 1048576) (E0 : Vars w) (E1 : HasMax w) :
    Calls Tryz.prog 4 #[.string s] w fun e w' => e = .returned (.bool true) ∧ Below w.heap.size w w' := by
  have HS := Lib.hid (fun  (w : World)  (e0 : Vars w) (e1 : HasMax w) => s_parspg s ls w)
  have HI := Lib.hid (fun  (w : World)  (e0 : Vars w) (e1 : HasMax w) => i_parspg s ls w e0 e1)
  have HRL := Lib.hid (parsPg_tot s.data.toList)
  generalize parsPg s.data.toList = R at HS HI HRL
  have X0 := Lib.hid E0
  clear E0
  have X1 := Lib.hid E1
  clear E1
  have B0 := Lib.hid (Below.refl w.heap.size w)
  go_enter Tryz.func4, Tryz.ntmps4
  go_wp2_with fail
  refine (HS.out  _  (X0.out.below B0.out) (X1.out.below B0.out)).mono ?_
  rintro e w1 ⟨⟨r, rfl, ho⟩, hb1⟩
  have B1 := Lib.hid (B0.out.trans (hb1.mono B0.out.size))
  have S1 := Lib.hid hb1.size
  have W_1 := Lib.hid ho
  clear hb1 ho
  go_wp2_with fail
  refine (HI.out  _  (X0.out.below B1.out) (X1.out.below B1.out)).mono ?_
  rintro e w2 ⟨⟨r, rfl, ho⟩, hb2⟩
  have B2 := Lib.hid (B1.out.trans (hb2.mono B1.out.size))
  have S2 := Lib.hid hb2.size
  have W_2 := Lib.hid (W_1.out.below hb2)
  have G_2 := Lib.hid ho
  clear hb2 W_1 ho
  go_wp2_with fail
  refine (eq_rows R.1 _ _ _ G_2.out.rw W_2.out.rw).mono ?_
  rintro e w3 ⟨rfl, hb3⟩
  have B3 := Lib.hid (B2.out.trans (hb3.mono B2.out.size))
  have S3 := Lib.hid hb3.size
  have W_3 := Lib.hid (W_2.out.below hb3)
  have G_3 := Lib.hid (G_2.out.below hb3)
  clear hb3 W_2 G_2
  have ml := HRL.out
  obtain ⟨mm, hmm⟩ : ∃ q : Nat, 1 + tot R.1 = q := ⟨_, rfl⟩
  have gmm : mm ≤ 4611686018427387904 := by omega
  have KM := Lib.hid hmm
  clear ml hmm
  go_wp2_with fail
  refine (mark_rows R.1 _ _ 1 mm _ _ (Nat.le_refl 1) KM.out (by omega) G_3.out).mono ?_
  rintro e w4 ⟨rfl, ho, hb4⟩
  have B4 := Lib.hid (B3.out.trans (hb4.below (by have := S1.out; have := S2.out; have := S3.out; omega) (by have := S1.out; have := S2.out; have := S3.out; omega)))
  have S4 := Lib.hid hb4.size
  have W_4 := Lib.hid (W_3.out.kept hb4 (by have := S1.out; have := S2.out; have := S3.out; omega))
  have G_4 := Lib.hid ho
  clear hb4 ho
  go_wp2_with fail
  refine (held_rows _ R.1 1 mm _ (Nat.le_refl 1) KM.out gmm G_4.out.rw).mono ?_
  rintro e w5 ⟨rfl, hb5⟩
  have B5 := Lib.hid (B4.out.trans (hb5.mono B4.out.size))
  have S5 := Lib.hid hb5.size
  have W_5 := Lib.hid (W_4.out.below hb5)
  have G_5 := Lib.hid (G_4.out.below hb5)
  clear hb5 W_4 G_4
  go_wp2_with fail
  refine (HI.out  _  (X0.out.below B5.out) (X1.out.below B5.out)).mono ?_
  rintro e w6 ⟨⟨r, rfl, ho⟩, hb6⟩
  have B6 := Lib.hid (B5.out.trans (hb6.mono B5.out.size))
  have S6 := Lib.hid hb6.size
  have W_6 := Lib.hid (W_5.out.below hb6)
  have G_6 := Lib.hid (G_5.out.below hb6)
  have Z_6 := Lib.hid ho
  clear hb6 W_5 G_5 ho
  go_wp2_with fail
  refine (eq_rows R.1 _ _ _ Z_6.out.rw W_6.out.rw).mono ?_
  rintro e w7 ⟨rfl, hb7⟩
  have B7 := Lib.hid (B6.out.trans (hb7.mono B6.out.size))
  have S7 := Lib.hid hb7.size
  have W_7 := Lib.hid (W_6.out.below hb7)
  have G_7 := Lib.hid (G_6.out.below hb7)
  have Z_7 := Lib.hid (Z_6.out.below hb7)
  clear hb7 W_6 G_6 Z_6
  clear Z_7
  clear W_7
  go_wp2_with fail
  refine (held_rows _ R.1 1 mm _ (Nat.le_refl 1) KM.out gmm G_7.out.rw).mono ?_
  rintro e w8 ⟨rfl, hb8⟩
  have B8 := Lib.hid (B7.out.trans (hb8.mono B7.out.size))
  have S8 := Lib.hid hb8.size
  have G_8 := Lib.hid (G_7.out.below hb8)
  clear hb8 G_7
  go_wp2_with fail
  go_ret
  exact ⟨rfl, B8.out⟩

theorem walk (s : ByteArray) (w : World)   (ss : s.size ≤ maxLen) (E0 : Vars w) (E1 : HasMax w) :
    Calls Tryz.prog 4 #[.string s] w fun e w' => e = .returned (.bool true) ∧ Below w.heap.size w w' := by
  by_cases ls : s.size ≤ 1048576
  · exact walk_short s w   ls E0 E1
  · exact walk_long0 s w ss  (by omega)

theorem own : ownKnob Tryz.prog.godebug = none := by kernel_rfl
theorem laidOut : laidOutB Tryz.prog = true := by kernel_rfl


set_option maxRecDepth 100000 in
set_option linter.unusedVariables false in
theorem contract (H : Type) (enc : TypeId × Value → H) (W : World) (base : Nat) (args : Array Value) (ds gs : List (DataW H)) (before : List MemPlace)
    (hval : ∀ (j : Nat) t v, Tryz.f4.params[j]? = some t → args[j]? = some v → Value.okWide Tryz.prog W .any base t v)
    (hW : DataW.Whole enc Tryz.prog Tryz.f4.params.toList Rows.fnExactParsePolygonSpec.vars false W args.toList ds gs before) (hL : laidMetH Tryz.prog Rows.fnExactParsePolygonRow.laid W) (hS : W.ShapedOpen Tryz.prog) :
    Calls Tryz.prog 4 args W fun e W' => ∃ v, e = .returned v ∧ Rows.fnExactParsePolygonSpec.post enc Tryz.prog Tryz.f4 false true false false W args v W' := by
  have hW' := hW
  obtain ⟨p, q, hA0, hV, rfl, hfz, hnd⟩ := hW
  have hA : DataW.TrodAll enc Tryz.prog W 0 (fun _ => true) true Tryz.f4.params.toList args.toList ds p := hA0
  rw [Tryz.params4] at hA hval
  obtain ⟨v0, vs0, d0, ds0, p0, q0, hargs, rfl, rfl, h0, r0⟩ := trodAll_cons hA
  obtain ⟨rfl, rfl, rfl⟩ := trodAll_nil r0
  obtain rfl : args = #[v0] := by cases args; simp_all
  obtain ⟨s, rfl, rfl, rfl, ws⟩ := open_string Tryz.underlying9 (hval 0 9 v0 rfl rfl) h0
  refine (walk s W   ws (vars_of hL) (max_of hS)).mono fun e W' ⟨he, hb⟩ => ?_
  subst he
  exact ⟨_, rfl, law_post laidOut (by kernel_rfl) rfl Tryz.underlying4 rfl hW' (fun ds' h => by match ds', h with | [d0], _ => rfl) hb⟩


def laidCells : List (DataW Unit) → Array Value := fun l => (l.flatMap fun | .lit (.int k z) => [Value.int k z] | .agg m => (m.map fun | .lit (.int k z) => Value.int k z | _ => .int .i64 0) | _ => []).toArray
def aggCells : DataW Unit → Array Value
  | .agg l => laidCells l
  | _ => #[]
def sentText : DataW Unit → List UInt8
  | .iface _ (.ptr (.agg [.lit (.string l)])) => l
  | _ => []
/-- A world for the witness: the settled one, the listed variables holding what their initialisers lay. -/
noncomputable def laidWorld (os : Os) : World :=
  let N := (World.settled Tryz.prog os).heap.size
  let put (h : Array Obj) (g : Nat) (cs : Array Value) : Array Obj := h.modify g fun
    | .cells _ t frozen => .cells cs t frozen
    | o => o
  let w0 := World.holding Tryz.prog os ⟨#[.cells #[.string ⟨(sentText Rows.laid_strconv_ErrRange).toArray⟩] 222, .cells #[.string ⟨(sentText Rows.laid_strconv_ErrSyntax).toArray⟩] 222], #[], []⟩
  let h := w0.heap
  let h := put h 6 (aggCells Rows.laid_math_bits_deBruijn32tab)
  let h := put h 7 (aggCells Rows.laid_math_bits_deBruijn64tab)
  let h := put h 0 (aggCells Rows.laid_internal_strconv_uint64pow10)
  let h := put h 3 (aggCells Rows.laid_unicode_utf8_acceptRanges)
  let h := put h 5 #[.iface 220 (.pointer (some ⟨N + 0, 0, none⟩))]
  let h := put h 4 #[.iface 220 (.pointer (some ⟨N + 1, 0, none⟩))]
  let h := put h 2 (aggCells Rows.laid_unicode_utf8_first)
  { w0 with heap := h }
theorem laid_met (os : Os) : laidMet Tryz.prog Rows.fnExactParsePolygonRow.laid ((laidWorld os).forCall (fun _ _ => 0) ⟨#[], #[.string ⟨#[]⟩], []⟩).memory :=
  laidMet_of_run' 8 (by kernel_rfl) (by kernel_rfl)
theorem reads (os : Os) {H : Type} (enc : TypeId × Value → H) : ∃ places, DataW.whole enc Tryz.prog ((laidWorld os).forCall (fun _ _ => 0) ⟨#[], #[.string ⟨#[]⟩], []⟩).memory Tryz.f4.params.toList Rows.fnExactParsePolygonSpec.vars false (#[.string ⟨#[]⟩] : Array Value).toList 8 = some ([.lit (.string [])], [], places) :=
  ⟨[], by kernel_rfl⟩

set_option maxRecDepth 100000 in
theorem lifted (os : Os) (started : os.Started) (H : Type) (enc : TypeId × Value → H) (F : Stop.Interp) :
    ReturnsInHanded {} Tryz.checked os 4 .any ((OpenSpec.ofChange Rows.fnExactParsePolygonSpec).preRow enc Tryz.prog Tryz.f4 Rows.fnExactParsePolygonRow.domain false Rows.fnExactParsePolygonRow.laid) (((OpenSpec.ofChange Rows.fnExactParsePolygonSpec).at F).post enc Tryz.prog Tryz.f4 false true false false) := by
  obtain ⟨places, hx⟩ := reads os enc
  refine returnsInHanded_of_row (C := Tryz.checked) (s := (OpenSpec.ofChange Rows.fnExactParsePolygonSpec)) own started (by kernel_rfl) Tryz.func4
    (witness_row_atRef (enc := enc) (C := Tryz.checked) false (laidWorld os) #[.string ⟨#[]⟩] rfl (by kernel_rfl) (by kernel_rfl) (by kernel_rfl)
      (OpenSpec.preRow_of_cond 8 hx (by kernel_rfl) (fun k hk => by cases hk) (by kernel_rfl) (laid_met os))) ?_
  intro W base args ds gs before hval hW _ hcond _ hL hS _
  exact contract H enc W base args ds gs before hval hW hL hS

theorem said : Rows.FnExactParsePolygonSaid :=
  OpenClaim.holds_of_cond 4 Tryz.f4 rfl rfl rfl rfl rfl rfl rfl ⟨rfl, rfl, rfl, rfl, rfl⟩ rfl rfl rfl rfl rfl (by kernel_rfl) Tryz.func4 (by kernel_rfl)
    (of_decide_eq_true (by kernel_rfl)) (by unfold Func.isWrapper; first | (rw [if_pos (by decide +kernel)]; kernel_rfl) | (rw [if_neg (by decide +kernel)]; exact ⟨rfl, rfl⟩))
    (fun os started H enc _ F => by rw [OpenClaim.pre_eq_preRow]; exact lifted os started H enc F)

theorem plain (f : FuncId) (fn : Func) (hf : Tryz.pinned.checked.prog.funcNamed "loop.example/g00959/laws.FnExactParsePolygon" = some f) (hfn : Tryz.pinned.checked.prog.funcs[f]? = some fn) :
    true = Tryz.pinned.checked.prog.looks [] ∧ ∀ (j : Nat) t, fn.params[j]? = some t → Tryz.pinned.checked.prog.wantsStandIn t = false := by
  obtain rfl : f = 4 := Option.some.inj ((show Tryz.prog.funcNamed "loop.example/g00959/laws.FnExactParsePolygon" = some 4 by kernel_rfl).symm.trans hf) |>.symm
  obtain rfl : fn = Tryz.f4 := (Option.some.inj (Tryz.func4.symm.trans hfn)).symm
  refine ⟨by kernel_rfl, fun j t ht => ?_⟩
  rw [Tryz.params4] at ht
  have hall : (Tryz.f4.params.all fun t => !Tryz.prog.wantsStandIn t) = true := by kernel_rfl
  have hm := Array.mem_of_getElem? ht
  rw [← Tryz.params4] at hm
  have := (Array.all_eq_true_iff_forall_mem.1 hall) t hm
  have h2 : Tryz.prog.wantsStandIn t = false := by simpa using this
  exact h2

theorem card : Rows.FnExactParsePolygonCardSaid :=
  Claim7.holds_tied_plain_at .later [] _ _ _ _ said (fun _ h => by cases h) (by kernel_rfl) (fun _ h => by cases h) fnExactParsePolygon_row_tie rfl ⟨rfl, rfl⟩ (by kernel_rfl) rfl plain (by kernel_rfl)
end Go.Proofs.YtoekgcafhcamjaaGreatDoor.fnExactParsePolygon
