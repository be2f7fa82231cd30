/- FnExactRegionText holds for every input. Conditions: the listed package variables hold what the program text lays. -/
import Derived.Test.YtmogncpkdkdodaaDoorRgTI
import Derived.Test.YtmogncpkdkdodaaDoorHfCame
import Derived.Test.YtmogncpkdkdodaaDoorHfSz
import Derived.Test.YtmogncpkdkdodaaDoorHfEq
import Derived.Test.YtmogncpkdkdodaaDoorHfMark
import Derived.Test.YtmogncpkdkdodaaDoorIntTo
import Derived.Test.YtmogncpkdkdodaaDoorIntEq
import Derived.Test.YtmogncpkdkdodaaDoorIntMark
import Derived.Test.YtmogncpkdkdodaaDoorLaw
import Derived.Test.YtmogncpkdkdodaaDoorCards
import Derived.Test.YtmogncpkdkdodaaDoorTie
import Derived.Deep.DeepHandedRow
import Derived.Deep.DeepWitnessRowRef
import Derived.Lib.LaidTab
import Derived.Lib.LaidIn
import Derived.SevenTiedAt
import Derived.Stop.LaidErr
import Derived.LaidLaws
namespace Go.Proofs.YtmogncpkdkdodaaDoor.fnExactRegionText
open Go.ChangeShapes Go.WideShapes Go.ChangeAt Go.RowKit Go.Lib
open Go.ChangeMaps (open_string shut_string)
theorem gPowType : (Tryd.prog.globals[(1 : Nat)]?).map (·.type) = some 170 := by kernel_rfl
theorem cellsPow : Tryd.prog.cellsOf 170 = 20 := by kernel_rfl
theorem cellsU64 : Tryd.prog.cellsOf 163 = 1 := by kernel_rfl
theorem pow_of {W : World} (h : laidMetH Tryd.prog Rows.fnExactRegionTextRow.laid W) : HasPow W := by
  have h0 : laidMet Tryd.prog Rows.fnExactRegionTextRow.laid W := h
  have h2 := laidMet.tail (laidMet.tail (h0))
  exact Lib.tabIs_of_head gPow gPowType Tryd.underlying170 Tryd.underlying163 cellsU64 cellsPow h2

set_option linter.unusedVariables false in
set_option maxRecDepth 100000 in
set_option maxHeartbeats 400000 in
theorem walk_long0 (za : Rgn) (vza : Value) (w : World) (hza : Rg w vza za)  (hl : ¬ (((za.2.length + totN za.2) : Nat) : Int) ≤ 1048576) :
    Calls Tryd.prog 5 #[vza] w fun e w' => e = .returned (.bool true) ∧ Below w.heap.size w w' := by
  have Hza := Lib.hid hza
  obtain ⟨Uza, rfl, _⟩ := hza
  have Qza := Lib.hid (show szHs za.2 1048576 = -1 from szHs_small (by omega))
  have B0 := Lib.hid (Below.refl w.heap.size w)
  have hb1 := below1 w (.cells #[.int .i64 za.1, Uza] 46)
  have B1 := Lib.hid (B0.out.trans (hb1.mono B0.out.size))
  have S1 := Lib.hid (alloc_lt w (.cells #[.int .i64 za.1, Uza] 46))
  have Pza_1 := Lib.hid (Bk.new w #[.int .i64 za.1, Uza] 46)
  clear hb1
  go_enter Tryd.func5, Tryd.ntmps5
  obtain ⟨⟨lPza0, lPza1⟩, -⟩ := Pza_1.out.two
  go_wp2_with fail
  refine (sz_region za _ 1048576 _ (Hza.out.below B1.out) (by omega) (by omega)).mono ?_
  rintro e w2 ⟨rfl, hb2⟩
  rw [Qza.out]
  have B2 := Lib.hid (B1.out.trans (hb2.mono B1.out.size))
  have S2 := Lib.hid hb2.size
  have Pza_2 := Lib.hid (Pza_1.out.below hb2)
  clear hb2 Pza_1
  clear lPza0 lPza1
  go_wp2_with fail
  go_ret
  exact ⟨rfl, B2.out⟩

set_option linter.unusedVariables false in
set_option maxRecDepth 100000 in
set_option maxHeartbeats 3200000 in
theorem walk_short (za : Rgn) (vza : Value) (w : World) (hza : Rg w vza za)  (lza : (((za.2.length + totN za.2) : Nat) : Int) ≤ 1048576) (E0 : HasPow w) :
    Calls Tryd.prog 5 #[vza] w fun e w' => e = .returned (.bool true) ∧ Below w.heap.size w w' := by
  have HS := Lib.hid (fun (xza : Value) (w : World) (yza : Rg w xza za) (e0 : HasPow w) => s_regtext za xza w yza)
  have HI := Lib.hid (fun (xza : Value) (w : World) (yza : Rg w xza za) (e0 : HasPow w) => i_regtext za xza w e0 yza)
  generalize regT za.1 za.2 = R at HS HI
  have Hza := Lib.hid hza
  obtain ⟨Uza, rfl, _⟩ := hza
  obtain ⟨Lza, hLza⟩ : ∃ q : Int, 1048576 - za.2.length - totN za.2 = q := ⟨_, rfl⟩
  have g1za : 0 ≤ Lza := by omega
  have g2za : Lza ≤ 1048576 := by omega
  have Qza := Lib.hid (show szHs za.2 1048576 = Lza by rw [szHs_fits (by omega), hLza])
  clear hLza
  have eza : za.2.length ≤ 1048576 := by omega
  have fza : ∀ (i : Nat) h, za.2[i]? = some h → h.1.length ≤ 1048576 := fun i h hz => by have h1 := lt_of_get hz; have h2 := half_le_tot h1; rw [List.getElem?_eq_getElem h1] at hz; obtain rfl := Option.some.inj hz; omega
  have Tza := Lib.hid (totH_eq za.2)
  have Fza := Lib.hid fza
  clear fza
  have X0 := Lib.hid E0
  clear E0
  have B0 := Lib.hid (Below.refl w.heap.size w)
  have hb1 := below1 w (.cells #[.int .i64 za.1, Uza] 46)
  have B1 := Lib.hid (B0.out.trans (hb1.mono B0.out.size))
  have S1 := Lib.hid (alloc_lt w (.cells #[.int .i64 za.1, Uza] 46))
  have Pza_1 := Lib.hid (Bk.new w #[.int .i64 za.1, Uza] 46)
  clear hb1
  go_enter Tryd.func5, Tryd.ntmps5
  obtain ⟨⟨lPza0, lPza1⟩, -⟩ := Pza_1.out.two
  go_wp2_with fail
  refine (sz_region za _ 1048576 _ (Hza.out.below B1.out) (by omega) (by omega)).mono ?_
  rintro e w2 ⟨rfl, hb2⟩
  rw [Qza.out]
  have B2 := Lib.hid (B1.out.trans (hb2.mono B1.out.size))
  have S2 := Lib.hid hb2.size
  have Pza_2 := Lib.hid (Pza_1.out.below hb2)
  clear hb2 Pza_1
  clear lPza0 lPza1
  obtain ⟨⟨lPza0, lPza1⟩, -⟩ := Pza_2.out.two
  go_wp2_with fail
  refine (to_region za _ _ (Hza.out.below B2.out) eza Fza.out).mono ?_
  rintro e w3 ⟨⟨_, rfl, x, rfl, ho⟩, hb3⟩
  obtain ⟨xacza, xccza, rfl, _⟩ := ho.hs.shape
  clear lPza0 lPza1
  have B3 := Lib.hid (B2.out.trans (hb3.mono B2.out.size))
  have S3 := Lib.hid hb3.size
  have Pza_3 := Lib.hid (Pza_2.out.below hb3)
  have cza_3 := Lib.hid ho
  clear hb3 Pza_2 ho
  go_wp2_with fail
  refine (HS.out _ _ ⟨_, rfl, cza_3.out.hs⟩ (X0.out.below B3.out)).mono ?_
  rintro e w4 ⟨rfl, hb4⟩
  have B4 := Lib.hid (B3.out.trans (hb4.mono B3.out.size))
  have S4 := Lib.hid hb4.size
  have Pza_4 := Lib.hid (Pza_3.out.below hb4)
  have cza_4 := Lib.hid (cza_3.out.below hb4)
  clear hb4 Pza_3 cza_3
  clear cza_4
  obtain ⟨⟨lPza0, lPza1⟩, -⟩ := Pza_4.out.two
  go_wp2_with fail
  refine (to_region za _ _ (Hza.out.below B4.out) eza Fza.out).mono ?_
  rintro e w5 ⟨⟨_, rfl, x, rfl, ho⟩, hb5⟩
  obtain ⟨xaxza, xcxza, rfl, _⟩ := ho.hs.shape
  clear lPza0 lPza1
  have B5 := Lib.hid (B4.out.trans (hb5.mono B4.out.size))
  have S5 := Lib.hid hb5.size
  have Pza_5 := Lib.hid (Pza_4.out.below hb5)
  have xza_5 := Lib.hid ho
  clear hb5 Pza_4 ho
  have hb6 := below1 w5 (.cells #[.int .i64 za.1, .slice xaxza za.2.length xcxza] 51)
  have B6 := Lib.hid (B5.out.trans (hb6.mono B5.out.size))
  have S6 := Lib.hid (alloc_lt w5 (.cells #[.int .i64 za.1, .slice xaxza za.2.length xcxza] 51))
  have Pza_6 := Lib.hid (Pza_5.out.below hb6)
  have xza_6 := Lib.hid (xza_5.out.below hb6)
  have Bxza_6 := Lib.hid (Bk.new w5 #[.int .i64 za.1, .slice xaxza za.2.length xcxza] 51)
  clear hb6 Pza_5 xza_5
  obtain ⟨⟨lBxza0, lBxza1⟩, -⟩ := Bxza_6.out.two
  go_wp2_with fail
  refine (HI.out _ _ ⟨_, rfl, xza_6.out.hs⟩ (X0.out.below B6.out)).mono ?_
  rintro e w7 ⟨rfl, hb7⟩
  have B7 := Lib.hid (B6.out.trans (hb7.mono B6.out.size))
  have S7 := Lib.hid hb7.size
  have Pza_7 := Lib.hid (Pza_6.out.below hb7)
  have xza_7 := Lib.hid (xza_6.out.below hb7)
  have Bxza_7 := Lib.hid (Bxza_6.out.below hb7)
  clear hb7 Pza_6 xza_6 Bxza_6
  clear lBxza0 lBxza1
  have DX := Lib.hid Bxza_7.out.two.1
  have DP := Lib.hid Pza_7.out.two.1
  have LX := Lib.hid Bxza_7.out.lt
  have LP := Lib.hid Pza_7.out.lt
  have RX := Lib.hid (show Rg w7 (.agg #[.int .i64 za.1, .slice xaxza za.2.length xcxza]) za from ⟨_, rfl, xza_7.out.hs⟩)
  obtain ⟨lx0, lx1⟩ := DX.out
  obtain ⟨lp0, lp1⟩ := DP.out
  go_wp2_with fail
  go_region_held3 (fun w' => w'.cell? ⟨w5.heap.size, 0, none⟩ = some (.int .i64 za.1) ∧ w'.cell? ⟨w5.heap.size, 1, none⟩ = some (.slice xaxza za.2.length xcxza) ∧ w'.cell? ⟨w.heap.size, 0, none⟩ = some (.int .i64 za.1) ∧ w'.cell? ⟨w.heap.size, 1, none⟩ = some (Uza) ∧ Below w7.heap.size w7 w')
    (first | with_reducible exact keepF4 lx0 lx1 lp0 lp1 (Below.refl _ _) | (go_split_ands; with_reducible exact keepE4 LX.out LX.out LP.out LP.out (by assumption) (by assumption) (by assumption) (by assumption) (by assumption) (by assumption)) | go_keep)
    (first | (go_at_call 36; refine (to_region za _ _ (Hza.out.below (B7.out.drew)) eza Fza.out).mono ?_; rintro e w1 ⟨⟨_, rfl, x, rfl, ho⟩, hb1⟩) | (go_at_call 38; refine (eq_region za _ _ _ (RX.out.below (drew_below hb1)) ⟨_, rfl, ho.hs⟩).mono ?_; rintro e w2 ⟨rfl, hb2⟩))
  rename_i hH
  obtain ⟨w8, hb8⟩ : ∃ q, Below w7.heap.size w7 q ∧ q = w2 := ⟨w2, hH.2.2.2.2, rfl⟩
  obtain ⟨hb8, rfl⟩ := hb8
  clear hH DX DP LX LP RX lx0 lx1 lp0 lp1 hb1 hb2 ho
  have B8 := Lib.hid (B7.out.trans (hb8.mono B7.out.size))
  have S8 := Lib.hid hb8.size
  have Pza_8 := Lib.hid (Pza_7.out.below hb8)
  have xza_8 := Lib.hid (xza_7.out.below hb8)
  have Bxza_8 := Lib.hid (Bxza_7.out.below hb8)
  clear hb8 Pza_7 xza_7 Bxza_7
  go_wp2_with fail
  go_ret
  exact ⟨rfl, B8.out⟩

theorem walk (za : Rgn) (vza : Value) (w : World) (hza : Rg w vza za)   (E0 : HasPow w) :
    Calls Tryd.prog 5 #[vza] w fun e w' => e = .returned (.bool true) ∧ Below w.heap.size w w' := by
  by_cases lza : (((za.2.length + totN za.2) : Nat) : Int) ≤ 1048576
  · exact walk_short za vza w hza  lza E0
  · exact walk_long0 za vza w hza  lza

theorem own : ownKnob Tryd.prog.godebug = none := by kernel_rfl
theorem laidOut : laidOutB Tryd.prog = true := by kernel_rfl


set_option maxRecDepth 100000 in
set_option linter.unusedVariables false in
theorem contract (H : Type) (enc : TypeId × Value → H) (W : World) (base : Nat) (args : Array Value) (ds gs : List (DataW H)) (before : List MemPlace)
    (hval : ∀ (j : Nat) t v, Tryd.f5.params[j]? = some t → args[j]? = some v → Value.okWide Tryd.prog W .any base t v)
    (hW : DataW.Whole enc Tryd.prog Tryd.f5.params.toList Rows.fnExactRegionTextSpec.vars false W args.toList ds gs before) (hL : laidMetH Tryd.prog Rows.fnExactRegionTextRow.laid W) :
    Calls Tryd.prog 5 args W fun e W' => ∃ v, e = .returned v ∧ Rows.fnExactRegionTextSpec.post enc Tryd.prog Tryd.f5 false true false false W args v W' := by
  have hW' := hW
  obtain ⟨p, q, hA0, hV, rfl, hfz, hnd⟩ := hW
  have hA : DataW.TrodAll enc Tryd.prog W 0 (fun _ => true) true Tryd.f5.params.toList args.toList ds p := hA0
  rw [Tryd.params5] at hA hval
  obtain ⟨v0, vs0, d0, ds0, p0, q0, hargs, rfl, rfl, h0, r0⟩ := trodAll_cons hA
  obtain ⟨rfl, rfl, rfl⟩ := trodAll_nil r0
  obtain rfl : args = #[v0] := by cases args; simp_all
  obtain ⟨za, wza⟩ : ∃ z : Rgn, True ∧ Rg W v0 z ∧ (Lit.int .i64 z.1).wf = true ∧ HWf z.2 := rg_came Tryd.underlying46 (by kernel_rfl) (by kernel_rfl) Tryd.underlying3 Tryd.underlying44 Tryd.underlying133 (by kernel_rfl) rfl rfl (by kernel_rfl) (by kernel_rfl) Tryd.underlying31 Tryd.underlying3 (by kernel_rfl) Tryd.underlying3 (hval 0 46 v0 rfl rfl) h0
  refine (walk za _ W wza.2.1   (pow_of hL)).mono fun e W' ⟨he, hb⟩ => ?_
  subst he
  exact ⟨_, rfl, law_post laidOut (by kernel_rfl) rfl Tryd.underlying4 rfl hW' (fun ds' h => by match ds', h with | [d0], _ => rfl) hb⟩


def laidCells : List (DataW Unit) → Array Value := fun l => (l.flatMap fun | .lit (.int k z) => [Value.int k z] | .agg m => (m.map fun | .lit (.int k z) => Value.int k z | _ => .int .i64 0) | _ => []).toArray
def aggCells : DataW Unit → Array Value
  | .agg l => laidCells l
  | _ => #[]
def sentText : DataW Unit → List UInt8
  | .iface _ (.ptr (.agg [.lit (.string l)])) => l
  | _ => []
/-- A world for the witness: the settled one, the listed variables holding what their initialisers lay. -/
noncomputable def laidWorld (os : Os) : World :=
  let put (h : Array Obj) (g : Nat) (cs : Array Value) : Array Obj := h.modify g fun
    | .cells _ t frozen => .cells cs t frozen
    | o => o
  let w0 := World.holding Tryd.prog os ⟨#[], #[], []⟩
  let h := w0.heap
  let h := put h 3 (aggCells Rows.laid_math_bits_deBruijn32tab)
  let h := put h 4 (aggCells Rows.laid_math_bits_deBruijn64tab)
  let h := put h 1 (aggCells Rows.laid_internal_strconv_uint64pow10)
  { w0 with heap := h }
theorem laid_met (os : Os) : laidMet Tryd.prog Rows.fnExactRegionTextRow.laid ((laidWorld os).forCall (fun _ _ => 0) ⟨#[], #[.agg #[.int .i64 0, .slice none 0 0]], []⟩).memory :=
  laidMet_of_run' 8 (by kernel_rfl) (by kernel_rfl)
theorem reads (os : Os) {H : Type} (enc : TypeId × Value → H) : ∃ places, DataW.whole enc Tryd.prog ((laidWorld os).forCall (fun _ _ => 0) ⟨#[], #[.agg #[.int .i64 0, .slice none 0 0]], []⟩).memory Tryd.f5.params.toList Rows.fnExactRegionTextSpec.vars false (#[.agg #[.int .i64 0, .slice none 0 0]] : Array Value).toList 8 = some ([.agg [.lit (.int .i64 0), .nil]], [], places) :=
  ⟨[], by kernel_rfl⟩

set_option maxRecDepth 100000 in
theorem lifted (os : Os) (started : os.Started) (H : Type) (enc : TypeId × Value → H) (F : Stop.Interp) :
    ReturnsInHanded {} Tryd.checked os 5 .any ((OpenSpec.ofChange Rows.fnExactRegionTextSpec).preRow enc Tryd.prog Tryd.f5 Rows.fnExactRegionTextRow.domain false Rows.fnExactRegionTextRow.laid) (((OpenSpec.ofChange Rows.fnExactRegionTextSpec).at F).post enc Tryd.prog Tryd.f5 false true false false) := by
  obtain ⟨places, hx⟩ := reads os enc
  refine returnsInHanded_of_row (C := Tryd.checked) (s := (OpenSpec.ofChange Rows.fnExactRegionTextSpec)) own started (by kernel_rfl) Tryd.func5
    (witness_row_atRef (enc := enc) (C := Tryd.checked) false (laidWorld os) #[.agg #[.int .i64 0, .slice none 0 0]] rfl (by kernel_rfl) (by kernel_rfl) (by kernel_rfl)
      (OpenSpec.preRow_of_cond 8 hx (by kernel_rfl) (fun k hk => by cases hk) (by kernel_rfl) (laid_met os))) ?_
  intro W base args ds gs before hval hW _ hcond _ hL hS _
  exact contract H enc W base args ds gs before hval hW hL

theorem said : Rows.FnExactRegionTextSaid :=
  OpenClaim.holds_of_cond 5 Tryd.f5 rfl rfl rfl rfl rfl rfl rfl ⟨rfl, rfl, rfl, rfl, rfl⟩ rfl rfl rfl rfl rfl (by kernel_rfl) Tryd.func5 (by kernel_rfl)
    (of_decide_eq_true (by kernel_rfl)) (by unfold Func.isWrapper; first | (rw [if_pos (by decide +kernel)]; kernel_rfl) | (rw [if_neg (by decide +kernel)]; exact ⟨rfl, rfl⟩))
    (fun os started H enc _ F => by rw [OpenClaim.pre_eq_preRow]; exact lifted os started H enc F)

theorem plain (f : FuncId) (fn : Func) (hf : Tryd.pinned.checked.prog.funcNamed "loop.example/g00959/laws.FnExactRegionText" = some f) (hfn : Tryd.pinned.checked.prog.funcs[f]? = some fn) :
    true = Tryd.pinned.checked.prog.looks [] ∧ ∀ (j : Nat) t, fn.params[j]? = some t → Tryd.pinned.checked.prog.wantsStandIn t = false := by
  obtain rfl : f = 5 := Option.some.inj ((show Tryd.prog.funcNamed "loop.example/g00959/laws.FnExactRegionText" = some 5 by kernel_rfl).symm.trans hf) |>.symm
  obtain rfl : fn = Tryd.f5 := (Option.some.inj (Tryd.func5.symm.trans hfn)).symm
  refine ⟨by kernel_rfl, fun j t ht => ?_⟩
  rw [Tryd.params5] at ht
  have hall : (Tryd.f5.params.all fun t => !Tryd.prog.wantsStandIn t) = true := by kernel_rfl
  have hm := Array.mem_of_getElem? ht
  rw [← Tryd.params5] at hm
  have := (Array.all_eq_true_iff_forall_mem.1 hall) t hm
  have h2 : Tryd.prog.wantsStandIn t = false := by simpa using this
  exact h2

theorem card : Rows.FnExactRegionTextCardSaid :=
  Claim7.holds_tied_plain_at .later [] _ _ _ _ said (fun _ h => by cases h) (by kernel_rfl) (fun _ h => by cases h) fnExactRegionText_row_tie rfl ⟨rfl, rfl⟩ (by kernel_rfl) rfl plain (by kernel_rfl)
end Go.Proofs.YtmogncpkdkdodaaDoor.fnExactRegionText
