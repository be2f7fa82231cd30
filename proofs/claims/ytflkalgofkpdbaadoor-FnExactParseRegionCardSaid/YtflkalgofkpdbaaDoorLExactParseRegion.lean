/- FnExactParseRegion holds for every input. Conditions: the listed package variables hold what the program text lays. -/
import Derived.Test.YtflkalgofkpdbaaDoorRgPI
import Derived.Test.YtflkalgofkpdbaaDoorMbe
import Derived.Test.YtflkalgofkpdbaaDoorMbg
import Derived.Test.YtflkalgofkpdbaaDoorHfMark
import Derived.Test.YtflkalgofkpdbaaDoorMad
import Derived.Test.YtflkalgofkpdbaaDoorLaw
import Derived.Test.YtflkalgofkpdbaaDoorCards
import Derived.Test.YtflkalgofkpdbaaDoorTie
import Derived.Deep.DeepHandedRow
import Derived.Deep.DeepWitnessRowRef
import Derived.Lib.LaidTab
import Derived.Lib.LaidIn
import Derived.SevenTiedAt
import Derived.Stop.LaidErr
import Derived.LaidLaws
namespace Go.Proofs.YtflkalgofkpdbaaDoor.fnExactParseRegion
open Go.ChangeShapes Go.WideShapes Go.ChangeAt Go.RowKit Go.Lib
open Go.ChangeMaps (open_string shut_string)
theorem gPowType : (Tryd.prog.globals[(0 : Nat)]?).map (·.type) = some 116 := by kernel_rfl
theorem cellsPow : Tryd.prog.cellsOf 116 = 20 := by kernel_rfl
theorem cellsU64 : Tryd.prog.cellsOf 97 = 1 := by kernel_rfl
theorem pow_of {W : World} (h : laidMetH Tryd.prog Rows.fnExactParseRegionRow.laid W) : HasPow W := by
  have h0 : laidMet Tryd.prog Rows.fnExactParseRegionRow.laid W := h
  have h2 := laidMet.tail (laidMet.tail (h0))
  exact Lib.tabIs_of_head gPow gPowType Tryd.underlying116 Tryd.underlying97 cellsU64 cellsPow h2

theorem starName : "*" ++ "errors.errorString" = "*errors.errorString" := by decide
theorem starRow (u : TypeId) (h : Tryd.prog.typeName? 3 u = some "*errors.errorString") : u = 135 :=
  typeName_ptr_named (nm := "errors.errorString") (by rw [starName]; kernel_rfl) (by kernel_rfl) (by decide) u (by rw [starName]; exact h)
/-- What the row's list gives. -/
theorem vars_of {W : World} (h : laidMetH Tryd.prog Rows.fnExactParseRegionRow.laid W) : Vars W := by
  have h0 : laidMet Tryd.prog Rows.fnExactParseRegionRow.laid W := h
  have h3 := laidMet.tail (laidMet.tail (laidMet.tail (laidMet.tail (h0))))
  have h4 := laidMet.tail (laidMet.tail (laidMet.tail (laidMet.tail (laidMet.tail (h0)))))
  obtain ⟨a3, t3, hv3, _⟩ := laid_sentinel (g := 3) h3 (by kernel_rfl) (by kernel_rfl) Tryd.underlying81 starRow Tryd.underlying135 Tryd.underlying137 rfl rfl Tryd.underlying9 (by kernel_rfl) (by kernel_rfl)
  obtain ⟨a4, t4, hv4, _⟩ := laid_sentinel (g := 2) h4 (by kernel_rfl) (by kernel_rfl) Tryd.underlying81 starRow Tryd.underlying135 Tryd.underlying137 rfl rfl Tryd.underlying9 (by kernel_rfl) (by kernel_rfl)
  exact ⟨pow_of h, ⟨_, _, hv4⟩, ⟨_, _, hv3⟩⟩

theorem max_of {W : World} (h : W.ShapedOpen Tryd.prog) : HasMax W := Tryd.laysM146.s1_3 W h

set_option linter.unusedVariables false in
set_option maxRecDepth 100000 in
set_option maxHeartbeats 400000 in
theorem walk_long0 (s : ByteArray) (w : World) (ss : s.size ≤ maxLen)  (hl : 1048576 < s.size) :
    Calls Tryd.prog 4 #[.string s] w fun e w' => e = .returned (.bool true) ∧ Below w.heap.size w w' := by
  unfold maxLen at ss
  have B0 := Lib.hid (Below.refl w.heap.size w)
  go_enter Tryd.func4, Tryd.ntmps4
  go_wp2_with fail
  go_ret
  exact ⟨rfl, B0.out⟩

set_option linter.unusedVariables false in
set_option maxRecDepth 100000 in
set_option maxHeartbeats 3200000 in
theorem walk_short (s : ByteArray) (w : World)   (ls : s.size ≤ 1048576) (E0 : Vars w) (E1 : HasMax w) :
    Calls Tryd.prog 4 #[.string s] w fun e w' => e = .returned (.bool true) ∧ Below w.heap.size w w' := by
  have HS := Lib.hid (fun  (w : World)  (e0 : Vars w) (e1 : HasMax w) => s_parsreg s ls w)
  have HI := Lib.hid (fun  (w : World)  (e0 : Vars w) (e1 : HasMax w) => i_parsreg s ls w e0 e1)
  have HRL := Lib.hid (parsR_tot s.data.toList)
  generalize parsR s.data.toList = R at HS HI HRL
  have X0 := Lib.hid E0
  clear E0
  have X1 := Lib.hid E1
  clear E1
  have B0 := Lib.hid (Below.refl w.heap.size w)
  go_enter Tryd.func4, Tryd.ntmps4
  go_wp2_with fail
  refine (HS.out  _  (X0.out.below B0.out) (X1.out.below B0.out)).mono ?_
  rintro e w1 ⟨⟨_, rfl, x, rfl, ho⟩, hb1⟩
  obtain ⟨xaW, xcW, rfl, _⟩ := ho.hs.shape
  have B1 := Lib.hid (B0.out.trans (hb1.mono B0.out.size))
  have S1 := Lib.hid hb1.size
  have W_1 := Lib.hid ho
  clear hb1 ho
  have hb2 := below1 w1 (.cells #[.int .i64 R.1.1, .slice xaW R.1.2.length xcW] 29)
  have B2 := Lib.hid (B1.out.trans (hb2.mono B1.out.size))
  have S2 := Lib.hid (alloc_lt w1 (.cells #[.int .i64 R.1.1, .slice xaW R.1.2.length xcW] 29))
  have W_2 := Lib.hid (W_1.out.below hb2)
  have BW_2 := Lib.hid (Bk.new w1 #[.int .i64 R.1.1, .slice xaW R.1.2.length xcW] 29)
  clear hb2 W_1
  go_wp2_with fail
  refine (HI.out  _  (X0.out.below B2.out) (X1.out.below B2.out)).mono ?_
  rintro e w3 ⟨⟨_, rfl, x, rfl, ho⟩, hb3⟩
  obtain ⟨xaG, xcG, rfl, _⟩ := ho.hs.shape
  have B3 := Lib.hid (B2.out.trans (hb3.mono B2.out.size))
  have S3 := Lib.hid hb3.size
  have W_3 := Lib.hid (W_2.out.below hb3)
  have BW_3 := Lib.hid (BW_2.out.below hb3)
  have G_3 := Lib.hid ho
  clear hb3 W_2 BW_2 ho
  have hb4 := below1 w3 (.cells #[.int .i64 R.1.1, .slice xaG R.1.2.length xcG] 29)
  have B4 := Lib.hid (B3.out.trans (hb4.mono B3.out.size))
  have S4 := Lib.hid (alloc_lt w3 (.cells #[.int .i64 R.1.1, .slice xaG R.1.2.length xcG] 29))
  have W_4 := Lib.hid (W_3.out.below hb4)
  have BW_4 := Lib.hid (BW_3.out.below hb4)
  have G_4 := Lib.hid (G_3.out.below hb4)
  have BG_4 := Lib.hid (Bk.new w3 #[.int .i64 R.1.1, .slice xaG R.1.2.length xcG] 29)
  clear hb4 W_3 BW_3 G_3
  obtain ⟨⟨lBG0, lBG1⟩, -⟩ := BG_4.out.two
  obtain ⟨⟨lBW0, lBW1⟩, -⟩ := BW_4.out.two
  go_wp2_with fail
  refine (eq_region R.1 _ _ _ ⟨_, rfl, G_4.out.hs⟩ ⟨_, rfl, W_4.out.hs⟩).mono ?_
  rintro e w5 ⟨rfl, hb5⟩
  have B5 := Lib.hid (B4.out.trans (hb5.mono B4.out.size))
  have S5 := Lib.hid hb5.size
  have W_5 := Lib.hid (W_4.out.below hb5)
  have BW_5 := Lib.hid (BW_4.out.below hb5)
  have G_5 := Lib.hid (G_4.out.below hb5)
  have BG_5 := Lib.hid (BG_4.out.below hb5)
  clear hb5 W_4 BW_4 G_4 BG_4
  clear lBG0 lBG1 lBW0 lBW1
  have ml := HRL.out
  obtain ⟨mm, hmm⟩ : ∃ q : Nat, 1 + totH R.1.2 = q := ⟨_, rfl⟩
  have gmm : mm ≤ 4611686018427387904 := by omega
  have KM := Lib.hid hmm
  clear ml hmm
  obtain ⟨⟨lBG0, lBG1⟩, -⟩ := BG_5.out.two
  go_wp2_with fail
  refine (mark_region R.1 _ _ 1 mm _ _ (Nat.le_refl 1) KM.out (by omega) ⟨_, rfl, G_5.out⟩).mono ?_
  rintro e w6 ⟨rfl, ⟨_, hag, ho⟩, hb6⟩
  obtain rfl := agg_snd hag.symm
  have B6 := Lib.hid (B5.out.trans (hb6.below (by have := S1.out; have := S2.out; have := S3.out; have := S4.out; have := S5.out; omega) (by have := S1.out; have := S2.out; have := S3.out; have := S4.out; have := S5.out; omega)))
  have S6 := Lib.hid hb6.size
  have W_6 := Lib.hid (W_5.out.kept hb6 (by have := S1.out; have := S2.out; have := S3.out; have := S4.out; have := S5.out; omega))
  have BW_6 := Lib.hid (BW_5.out.kept hb6 (by have := S1.out; have := S2.out; have := S3.out; have := S4.out; have := S5.out; omega))
  have BG_6 := Lib.hid (BG_5.out.kept hb6 (by have := S1.out; have := S2.out; have := S3.out; have := S4.out; have := S5.out; omega))
  have G_6 := Lib.hid ho
  clear hb6 ho hag
  clear lBG0 lBG1
  obtain ⟨⟨lBG0, lBG1⟩, -⟩ := BG_6.out.two
  go_wp2_with fail
  refine (held_region _ R.1 1 mm _ (Nat.le_refl 1) KM.out gmm ⟨_, rfl, G_6.out.hs⟩).mono ?_
  rintro e w7 ⟨rfl, hb7⟩
  have B7 := Lib.hid (B6.out.trans (hb7.mono B6.out.size))
  have S7 := Lib.hid hb7.size
  have W_7 := Lib.hid (W_6.out.below hb7)
  have BW_7 := Lib.hid (BW_6.out.below hb7)
  have G_7 := Lib.hid (G_6.out.below hb7)
  have BG_7 := Lib.hid (BG_6.out.below hb7)
  clear hb7 W_6 BW_6 G_6 BG_6
  clear lBG0 lBG1
  go_wp2_with fail
  refine (HI.out  _  (X0.out.below B7.out) (X1.out.below B7.out)).mono ?_
  rintro e w8 ⟨⟨_, rfl, x, rfl, ho⟩, hb8⟩
  obtain ⟨xaZ, xcZ, rfl, _⟩ := ho.hs.shape
  have B8 := Lib.hid (B7.out.trans (hb8.mono B7.out.size))
  have S8 := Lib.hid hb8.size
  have W_8 := Lib.hid (W_7.out.below hb8)
  have BW_8 := Lib.hid (BW_7.out.below hb8)
  have G_8 := Lib.hid (G_7.out.below hb8)
  have BG_8 := Lib.hid (BG_7.out.below hb8)
  have Z_8 := Lib.hid ho
  clear hb8 W_7 BW_7 G_7 BG_7 ho
  have hb9 := below1 w8 (.cells #[.int .i64 R.1.1, .slice xaZ R.1.2.length xcZ] 29)
  have B9 := Lib.hid (B8.out.trans (hb9.mono B8.out.size))
  have S9 := Lib.hid (alloc_lt w8 (.cells #[.int .i64 R.1.1, .slice xaZ R.1.2.length xcZ] 29))
  have W_9 := Lib.hid (W_8.out.below hb9)
  have BW_9 := Lib.hid (BW_8.out.below hb9)
  have G_9 := Lib.hid (G_8.out.below hb9)
  have BG_9 := Lib.hid (BG_8.out.below hb9)
  have Z_9 := Lib.hid (Z_8.out.below hb9)
  have BZ_9 := Lib.hid (Bk.new w8 #[.int .i64 R.1.1, .slice xaZ R.1.2.length xcZ] 29)
  clear hb9 W_8 BW_8 G_8 BG_8 Z_8
  obtain ⟨⟨lBZ0, lBZ1⟩, -⟩ := BZ_9.out.two
  obtain ⟨⟨lBW0, lBW1⟩, -⟩ := BW_9.out.two
  go_wp2_with fail
  refine (eq_region R.1 _ _ _ ⟨_, rfl, Z_9.out.hs⟩ ⟨_, rfl, W_9.out.hs⟩).mono ?_
  rintro e w10 ⟨rfl, hb10⟩
  have B10 := Lib.hid (B9.out.trans (hb10.mono B9.out.size))
  have S10 := Lib.hid hb10.size
  have W_10 := Lib.hid (W_9.out.below hb10)
  have BW_10 := Lib.hid (BW_9.out.below hb10)
  have G_10 := Lib.hid (G_9.out.below hb10)
  have BG_10 := Lib.hid (BG_9.out.below hb10)
  have Z_10 := Lib.hid (Z_9.out.below hb10)
  have BZ_10 := Lib.hid (BZ_9.out.below hb10)
  clear hb10 W_9 BW_9 G_9 BG_9 Z_9 BZ_9
  clear lBZ0 lBZ1 lBW0 lBW1
  clear Z_10
  clear W_10
  clear BZ_10
  clear BW_10
  obtain ⟨⟨lBG0, lBG1⟩, -⟩ := BG_10.out.two
  go_wp2_with fail
  refine (held_region _ R.1 1 mm _ (Nat.le_refl 1) KM.out gmm ⟨_, rfl, G_10.out.hs⟩).mono ?_
  rintro e w11 ⟨rfl, hb11⟩
  have B11 := Lib.hid (B10.out.trans (hb11.mono B10.out.size))
  have S11 := Lib.hid hb11.size
  have G_11 := Lib.hid (G_10.out.below hb11)
  have BG_11 := Lib.hid (BG_10.out.below hb11)
  clear hb11 G_10 BG_10
  clear lBG0 lBG1
  go_wp2_with fail
  go_ret
  exact ⟨rfl, B11.out⟩

theorem walk (s : ByteArray) (w : World)   (ss : s.size ≤ maxLen) (E0 : Vars w) (E1 : HasMax w) :
    Calls Tryd.prog 4 #[.string s] w fun e w' => e = .returned (.bool true) ∧ Below w.heap.size w w' := by
  by_cases ls : s.size ≤ 1048576
  · exact walk_short s w   ls E0 E1
  · exact walk_long0 s w ss  (by omega)

theorem own : ownKnob Tryd.prog.godebug = none := by kernel_rfl
theorem laidOut : laidOutB Tryd.prog = true := by kernel_rfl


set_option maxRecDepth 100000 in
set_option linter.unusedVariables false in
theorem contract (H : Type) (enc : TypeId × Value → H) (W : World) (base : Nat) (args : Array Value) (ds gs : List (DataW H)) (before : List MemPlace)
    (hval : ∀ (j : Nat) t v, Tryd.f4.params[j]? = some t → args[j]? = some v → Value.okWide Tryd.prog W .any base t v)
    (hW : DataW.Whole enc Tryd.prog Tryd.f4.params.toList Rows.fnExactParseRegionSpec.vars false W args.toList ds gs before) (hL : laidMetH Tryd.prog Rows.fnExactParseRegionRow.laid W) (hS : W.ShapedOpen Tryd.prog) :
    Calls Tryd.prog 4 args W fun e W' => ∃ v, e = .returned v ∧ Rows.fnExactParseRegionSpec.post enc Tryd.prog Tryd.f4 false true false false W args v W' := by
  have hW' := hW
  obtain ⟨p, q, hA0, hV, rfl, hfz, hnd⟩ := hW
  have hA : DataW.TrodAll enc Tryd.prog W 0 (fun _ => true) true Tryd.f4.params.toList args.toList ds p := hA0
  rw [Tryd.params4] at hA hval
  obtain ⟨v0, vs0, d0, ds0, p0, q0, hargs, rfl, rfl, h0, r0⟩ := trodAll_cons hA
  obtain ⟨rfl, rfl, rfl⟩ := trodAll_nil r0
  obtain rfl : args = #[v0] := by cases args; simp_all
  obtain ⟨s, rfl, rfl, rfl, ws⟩ := open_string Tryd.underlying9 (hval 0 9 v0 rfl rfl) h0
  refine (walk s W   ws (vars_of hL) (max_of hS)).mono fun e W' ⟨he, hb⟩ => ?_
  subst he
  exact ⟨_, rfl, law_post laidOut (by kernel_rfl) rfl Tryd.underlying4 rfl hW' (fun ds' h => by match ds', h with | [d0], _ => rfl) hb⟩


def laidCells : List (DataW Unit) → Array Value := fun l => (l.flatMap fun | .lit (.int k z) => [Value.int k z] | .agg m => (m.map fun | .lit (.int k z) => Value.int k z | _ => .int .i64 0) | _ => []).toArray
def aggCells : DataW Unit → Array Value
  | .agg l => laidCells l
  | _ => #[]
def sentText : DataW Unit → List UInt8
  | .iface _ (.ptr (.agg [.lit (.string l)])) => l
  | _ => []
/-- A world for the witness: the settled one, the listed variables holding what their initialisers lay. -/
noncomputable def laidWorld (os : Os) : World :=
  let N := (World.settled Tryd.prog os).heap.size
  let put (h : Array Obj) (g : Nat) (cs : Array Value) : Array Obj := h.modify g fun
    | .cells _ t frozen => .cells cs t frozen
    | o => o
  let w0 := World.holding Tryd.prog os ⟨#[.cells #[.string ⟨(sentText Rows.laid_strconv_ErrRange).toArray⟩] 137, .cells #[.string ⟨(sentText Rows.laid_strconv_ErrSyntax).toArray⟩] 137], #[], []⟩
  let h := w0.heap
  let h := put h 6 (aggCells Rows.laid_math_bits_deBruijn32tab)
  let h := put h 7 (aggCells Rows.laid_math_bits_deBruijn64tab)
  let h := put h 0 (aggCells Rows.laid_internal_strconv_uint64pow10)
  let h := put h 5 (aggCells Rows.laid_unicode_utf8_acceptRanges)
  let h := put h 3 #[.iface 135 (.pointer (some ⟨N + 0, 0, none⟩))]
  let h := put h 2 #[.iface 135 (.pointer (some ⟨N + 1, 0, none⟩))]
  let h := put h 4 (aggCells Rows.laid_unicode_utf8_first)
  { w0 with heap := h }
theorem laid_met (os : Os) : laidMet Tryd.prog Rows.fnExactParseRegionRow.laid ((laidWorld os).forCall (fun _ _ => 0) ⟨#[], #[.string ⟨#[]⟩], []⟩).memory :=
  laidMet_of_run' 8 (by kernel_rfl) (by kernel_rfl)
theorem reads (os : Os) {H : Type} (enc : TypeId × Value → H) : ∃ places, DataW.whole enc Tryd.prog ((laidWorld os).forCall (fun _ _ => 0) ⟨#[], #[.string ⟨#[]⟩], []⟩).memory Tryd.f4.params.toList Rows.fnExactParseRegionSpec.vars false (#[.string ⟨#[]⟩] : Array Value).toList 8 = some ([.lit (.string [])], [], places) :=
  ⟨[], by kernel_rfl⟩

set_option maxRecDepth 100000 in
theorem lifted (os : Os) (started : os.Started) (H : Type) (enc : TypeId × Value → H) (F : Stop.Interp) :
    ReturnsInHanded {} Tryd.checked os 4 .any ((OpenSpec.ofChange Rows.fnExactParseRegionSpec).preRow enc Tryd.prog Tryd.f4 Rows.fnExactParseRegionRow.domain false Rows.fnExactParseRegionRow.laid) (((OpenSpec.ofChange Rows.fnExactParseRegionSpec).at F).post enc Tryd.prog Tryd.f4 false true false false) := by
  obtain ⟨places, hx⟩ := reads os enc
  refine returnsInHanded_of_row (C := Tryd.checked) (s := (OpenSpec.ofChange Rows.fnExactParseRegionSpec)) own started (by kernel_rfl) Tryd.func4
    (witness_row_atRef (enc := enc) (C := Tryd.checked) false (laidWorld os) #[.string ⟨#[]⟩] rfl (by kernel_rfl) (by kernel_rfl) (by kernel_rfl)
      (OpenSpec.preRow_of_cond 8 hx (by kernel_rfl) (fun k hk => by cases hk) (by kernel_rfl) (laid_met os))) ?_
  intro W base args ds gs before hval hW _ hcond _ hL hS _
  exact contract H enc W base args ds gs before hval hW hL hS

theorem said : Rows.FnExactParseRegionSaid :=
  OpenClaim.holds_of_cond 4 Tryd.f4 rfl rfl rfl rfl rfl rfl rfl ⟨rfl, rfl, rfl, rfl, rfl⟩ rfl rfl rfl rfl rfl (by kernel_rfl) Tryd.func4 (by kernel_rfl)
    (of_decide_eq_true (by kernel_rfl)) (by unfold Func.isWrapper; first | (rw [if_pos (by decide +kernel)]; kernel_rfl) | (rw [if_neg (by decide +kernel)]; exact ⟨rfl, rfl⟩))
    (fun os started H enc _ F => by rw [OpenClaim.pre_eq_preRow]; exact lifted os started H enc F)

theorem plain (f : FuncId) (fn : Func) (hf : Tryd.pinned.checked.prog.funcNamed "loop.example/g00959/laws.FnExactParseRegion" = some f) (hfn : Tryd.pinned.checked.prog.funcs[f]? = some fn) :
    true = Tryd.pinned.checked.prog.looks [] ∧ ∀ (j : Nat) t, fn.params[j]? = some t → Tryd.pinned.checked.prog.wantsStandIn t = false := by
  obtain rfl : f = 4 := Option.some.inj ((show Tryd.prog.funcNamed "loop.example/g00959/laws.FnExactParseRegion" = some 4 by kernel_rfl).symm.trans hf) |>.symm
  obtain rfl : fn = Tryd.f4 := (Option.some.inj (Tryd.func4.symm.trans hfn)).symm
  refine ⟨by kernel_rfl, fun j t ht => ?_⟩
  rw [Tryd.params4] at ht
  have hall : (Tryd.f4.params.all fun t => !Tryd.prog.wantsStandIn t) = true := by kernel_rfl
  have hm := Array.mem_of_getElem? ht
  rw [← Tryd.params4] at hm
  have := (Array.all_eq_true_iff_forall_mem.1 hall) t hm
  have h2 : Tryd.prog.wantsStandIn t = false := by simpa using this
  exact h2

theorem card : Rows.FnExactParseRegionCardSaid :=
  Claim7.holds_tied_plain_at .later [] _ _ _ _ said (fun _ h => by cases h) (by kernel_rfl) (fun _ h => by cases h) fnExactParseRegion_row_tie rfl ⟨rfl, rfl⟩ (by kernel_rfl) rfl plain (by kernel_rfl)
end Go.Proofs.YtflkalgofkpdbaaDoor.fnExactParseRegion
