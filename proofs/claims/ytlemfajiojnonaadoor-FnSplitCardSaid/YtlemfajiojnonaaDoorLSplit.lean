/- FnSplit holds for every input. Conditions: the listed package variables hold what the program text lays. -/
import Derived.Test.YtlemfajiojnonaaDoorSplit
import Derived.Test.YtlemfajiojnonaaDoorIJoin
import Derived.Test.YtlemfajiojnonaaDoorDrawSplit
import Derived.Test.YtlemfajiojnonaaDoorCode
import Derived.Test.YtlemfajiojnonaaDoorLaw
import Derived.Test.YtlemfajiojnonaaDoorCards
import Derived.Test.YtlemfajiojnonaaDoorTie
import Derived.Deep.DeepHandedRow
import Derived.Deep.DeepWitnessRowRef
import Derived.Lib.LaidTab
import Derived.Lib.LaidIn
import Derived.SevenTiedAt
import Derived.Stop.LaidErr
import Derived.LaidLaws
namespace Go.Proofs.YtlemfajiojnonaaDoor.fnSplit
open Go.ChangeShapes Go.WideShapes Go.ChangeAt Go.RowKit Go.Lib
open Go.ChangeMaps (open_string shut_string)
theorem max_of {W : World} (h : W.ShapedOpen Tryd.prog) : HasMax W := Tryd.laysM146.s1_3 W h

theorem sp_join (c : UInt8) : ∀ l : List UInt8, Lib.join (sp c l) [c] = l
  | [] => by simp [sp, join_one]
  | b :: r => by
    have ih := sp_join c r
    unfold sp
    cases hs : sp c r with
    | nil => exact absurd hs (sp_ne c r)
    | cons h t =>
      rw [hs, join_cons] at ih
      split
      · rename_i hb
        subst hb
        rw [join_cons]
        have e : joinTail [b] (h :: t) = b :: (h ++ joinTail [b] t) := by simp [joinTail]
        rw [e, ih]; rfl
      · simp only [join_cons, List.cons_append]
        rw [ih]
theorem sp_no (c : UInt8) : ∀ (l x : List UInt8), x ∈ sp c l → ∀ y ∈ x, y ≠ c
  | [], x, hx => by simp [sp] at hx; subst hx; simp
  | b :: r, x, hx => by
    have ih := sp_no c r
    unfold sp at hx
    split at hx
    · rcases List.mem_cons.1 hx with rfl | hx
      · simp
      · exact ih x hx
    · rename_i hb
      split at hx
      · rename_i h t e
        rcases List.mem_cons.1 hx with rfl | hx
        · intro y hy
          rcases List.mem_cons.1 hy with rfl | hy
          · exact hb
          · exact ih h (by rw [e]; simp) y hy
        · exact ih x (by rw [e]; simp [hx])
      · simp at hx; subst hx; intro y hy; simp at hy; subst hy; exact hb
theorem sp_sum (c : UInt8) : ∀ l : List UInt8, ((sp c l).map List.length).sum ≤ l.length
  | [] => by simp [sp]
  | b :: r => by
    have ih := sp_sum c r
    unfold sp
    split
    · simp; omega
    · split
      · rename_i h t e; rw [e] at ih; simp at ih ⊢; omega
      · simp
theorem parts_sizes (c : UInt8) (l : List UInt8) : sizes (parts c l) ≤ l.length := by
  have h := sp_sum c l
  unfold sizes parts
  rw [List.map_map]
  exact h
theorem parts_join (c : UInt8) (s : ByteArray) : jn [c] (parts c s.data.toList) = s.data.toList := by
  unfold jn parts
  rw [List.map_map]
  have : (sp c s.data.toList).map ((fun x : ByteArray => x.data.toList) ∘ fun x => (⟨x.toArray⟩ : ByteArray)) = sp c s.data.toList := by
    conv => rhs; rw [← List.map_id (sp c s.data.toList)]
    exact List.map_congr_left (fun a _ => rfl)
  rw [this, sp_join]
theorem parts_one (c : UInt8) (l : List UInt8) (x : ByteArray) (hx : x ∈ parts c l) : (parts c x.data.toList).length = 1 := by
  unfold parts at hx
  obtain ⟨y, hy, rfl⟩ := List.mem_map.1 hx
  have h := sp_none c y (sp_no c l y hy)
  rw [parts_len, h]; rfl
theorem size_mem {ss : List ByteArray} {x : ByteArray} (h : x ∈ ss) : x.size ≤ sizes ss := by
  unfold sizes
  induction ss with
  | nil => cases h
  | cons a r ih =>
    rcases List.mem_cons.1 h with rfl | h
    · simp
    · have := ih h; simp; omega

set_option maxRecDepth 100000 in
set_option maxHeartbeats 400000 in
theorem walk_big (a : Option Addr) (n c : Nat) (hl : 1048576 < n) (w : World) :
    Calls Tryd.prog 4 #[.slice a n c] w fun e w' => e = .returned (.bool true) ∧ Below w.heap.size w w' := by
  have hd : decide ((1048576 : Int) < n) = true := by simp; omega
  go_enter Tryd.func4, Tryd.ntmps4
  go_wp2_with fail
  refine (big_any a n c _).mono ?_
  rintro e w1 ⟨rfl, rfl⟩
  rw [hd]
  go_wp2_with fail
  go_ret
  exact ⟨rfl, Below.refl _ _⟩

set_option maxRecDepth 100000 in
set_option maxHeartbeats 800000 in
theorem walk_small (a : Option Addr) (c : Nat) (zs : List Int) (w : World) (hc : CodeIn w a zs) (hx : HasMax w) :
    Calls Tryd.prog 4 #[.slice a zs.length c] w fun e w' => e = .returned (.bool true) ∧ Below w.heap.size w w' := by
  have hd : decide ((1048576 : Int) < zs.length) = false := by have := hc.1; simp; omega
  have HC := Lib.hid hc
  have HX := Lib.hid hx
  have HD := Lib.hid hd
  clear hc hx hd
  go_enter Tryd.func4, Tryd.ntmps4
  go_wp2_with fail
  refine (big_any a zs.length c _).mono ?_
  rintro e w1 ⟨rfl, rfl⟩
  rw [HD.out]
  go_wp2_with fail
  refine (draw_split a c zs _ HC.out).mono ?_
  rintro e w1 ⟨⟨s, x, rfl, hs⟩, hb1⟩
  have HB1 := Lib.hid hb1
  clear hb1
  go_wp2_with fail
  refine (isplit s x (by omega) _ (HX.out.below HB1.out)).mono ?_
  rintro e w2 ⟨⟨g, rfl, hog⟩, hb2⟩
  have hl1 : (parts x s.data.toList).length ≤ 1001 := by
    rw [parts_len]
    have := sp_len_le x s.data.toList
    rw [list_len] at this; omega
  have hz1 : sizes (parts x s.data.toList) ≤ 1000 := by have := parts_sizes x s.data.toList; rw [list_len] at this; omega
  have HJ := Lib.hid (parts_join x s)
  have HO := Lib.hid (fun y hy => parts_one x s.data.toList y hy)
  have HSP := Lib.hid (ssplit s x (by omega))
  generalize parts x s.data.toList = PP at *
  have HG := Lib.hid hog
  have HB2 := Lib.hid (HB1.out.trans (hb2.mono HB1.out.size))
  clear hog hb2
  have hcv := run_one_byte (P := Tryd.prog) 22 9 5 5 Tryd.underlying22 Tryd.underlying5 Tryd.underlying9 (x.toNat : Int)
  have e1 : UInt8.ofNat ((x.toNat : Int)).toNat = x := by rw [Int.toNat_natCast]; exact UInt8.ofNat_toNat
  rw [e1] at hcv
  clear e1
  have hbq : ∀ o : Obj, Below w2.heap.size w2 (w2.alloc o) := fun o => (Below.refl _ _).alloc (Nat.le_refl _) o
  have HQ := Lib.hid hbq
  clear hbq
  go_wp2_with fail
  refine (ijoin PP ⟨#[x]⟩ _ _ ((Sl.of_owns HG.out).below (HQ.out _)) (by omega) (Nat.le_trans (Nat.le_of_eq (show (⟨#[x]⟩ : ByteArray).size = 1 from rfl)) (by decide)) (by omega)).mono ?_
  rintro e w3 ⟨rfl, hb3⟩
  rw [show (⟨#[x]⟩ : ByteArray).data.toList = [x] from rfl, HJ.out]
  have hstr : (!s.data.toList == s.toList) = false := by rw [ByteArray.toList_eq]; simp
  have hb3' := (HQ.out _).trans (hb3.mono (HQ.out (.cells #[.int .u8 x.toNat] 5)).size)
  have HB23 := Lib.hid hb3'
  have HB3 := Lib.hid (HB2.out.trans (hb3'.mono HB2.out.size))
  clear hb3 hb3'
  go_wp2_with fail
  refine (HSP.out _).mono ?_
  rintro e w4 ⟨⟨v4, rfl, ho4⟩, hb4⟩
  obtain ⟨a4, c4, rfl, _, _⟩ := (Sl.of_owns ho4).shape
  rw [strVals_len] at *
  have HG4 := Lib.hid (Sl.of_owns (owns_below (owns_below HG.out HB23.out) hb4))
  have HB4 := Lib.hid (HB3.out.trans (hb4.mono HB3.out.size))
  have hnn : ((PP.length : Int) != (PP.length : Int)) = false := by simp
  clear ho4 hb4
  go_wp2_with fail
  obtain ⟨a5, c5, e5, hm5, ho5⟩ := HG4.out.shape
  simp only [Value.slice.injEq, strVals_len, true_and] at e5
  obtain ⟨rfl, rfl⟩ := e5
  rw [strVals_len] at hm5 ho5
  have HO5 := Lib.hid ho5
  clear ho5 hnn hstr hcv
  go_loopw [6] (fun i wr => ∃ k : Nat, k ≤ PP.length ∧ i = .int .i64 k ∧ Below w4.heap.size w4 wr) (fun i _ => PP.length - (RowKit.intOf i).toNat)
  case atStart => exact ⟨0, Nat.zero_le _, rfl, Below.refl _ _⟩
  case round =>
    obtain ⟨k, hk, rfl, hbr⟩ := hrel
    by_cases hlt : k < PP.length
    · obtain ⟨b, off, eb, hcc, hlt2, hxx⟩ := HO5.out (by omega)
      simp only [Option.some.injEq, Addr.mk.injEq, and_true] at eb
      obtain ⟨rfl, rfl⟩ := eb
      have hcell := hxx k _ (strVals_get PP k hlt)
      rw [← hbr.cell (p := ⟨g, 0 + k, none⟩) hlt2, Nat.zero_add] at hcell
      have hone := HO.out _ (List.getElem_mem hlt)
      have hsz : PP[k].size ≤ 1000 := Nat.le_trans (size_mem (List.getElem_mem hlt)) hz1
      have HI := Lib.hid (isplit PP[k] x (by omega) wr (HX.out.below (HB4.out.trans (hbr.mono HB4.out.size))))
      rw [hone] at HI
      have HR := Lib.hid hbr
      clear hxx hone hbr hsz
      go_wp2_with fail
      refine HI.out.mono ?_
      rintro e w5 ⟨⟨g5, rfl, _⟩, hb5⟩
      have HB5 := Lib.hid (HR.out.trans (hb5.mono HR.out.size))
      clear hb5
      go_wp2_with fail
      exact ⟨⟨k + 1, by omega, by go_num, HB5.out⟩, by simp [RowKit.intOf]; omega⟩
    · obtain rfl : k = PP.length := by omega
      go_wp2
      go_ret
      exact ⟨rfl, HB4.out.trans (hbr.mono HB4.out.size)⟩

theorem walk (l : List Int) (a : Option Addr) (n c : Nat) (w : World) (hlen : l.length = n) (hs : Sl w (.slice a n c) (numVals .u8 l)) (hz : ∀ z ∈ l, (Lit.int .u8 z).wf = true) (hx : HasMax w) :
    Calls Tryd.prog 4 #[.slice a n c] w fun e w' => e = .returned (.bool true) ∧ Below w.heap.size w w' := by
  by_cases hl : n ≤ 1048576
  · have hc := code_in hlen hs hz hl
    subst hlen
    exact walk_small a c l w hc hx
  · exact walk_big a n c (by omega) w

theorem own : ownKnob Tryd.prog.godebug = none := by kernel_rfl
theorem laidOut : laidOutB Tryd.prog = true := by kernel_rfl


set_option maxRecDepth 100000 in
set_option linter.unusedVariables false in
theorem contract (H : Type) (enc : TypeId × Value → H) (W : World) (base : Nat) (args : Array Value) (ds gs : List (DataW H)) (before : List MemPlace)
    (hval : ∀ (j : Nat) t v, Tryd.f4.params[j]? = some t → args[j]? = some v → Value.okWide Tryd.prog W .any base t v)
    (hW : DataW.Whole enc Tryd.prog Tryd.f4.params.toList Rows.fnSplitSpec.vars false W args.toList ds gs before) (hL : laidMetH Tryd.prog Rows.fnSplitRow.laid W) (hS : W.ShapedOpen Tryd.prog) :
    Calls Tryd.prog 4 args W fun e W' => ∃ v, e = .returned v ∧ Rows.fnSplitSpec.post enc Tryd.prog Tryd.f4 false true false false W args v W' := by
  have hW' := hW
  obtain ⟨p, q, hA0, hV, rfl, hfz, hnd⟩ := hW
  have hA : DataW.TrodAll enc Tryd.prog W 0 (fun _ => true) true Tryd.f4.params.toList args.toList ds p := hA0
  rw [Tryd.params4] at hA hval
  obtain ⟨v0, vs0, d0, ds0, p0, q0, hargs, rfl, rfl, h0, r0⟩ := trodAll_cons hA
  obtain ⟨rfl, rfl, rfl⟩ := trodAll_nil r0
  obtain rfl : args = #[v0] := by cases args; simp_all
  obtain ⟨lA, lL, lC, rfl⟩ := okWide_slice Tryd.underlying22 (hval 0 22 v0 rfl rfl)
  obtain ⟨l, wl⟩ : ∃ zs : List Int, zs.length = lL ∧ Sl W (.slice lA lL lC) (numVals .u8 zs) ∧ ∀ z ∈ zs, (Lit.int .u8 z).wf = true := by
    obtain ⟨fuel, hf⟩ := h0
    exact nums_came Tryd.underlying22 Tryd.underlying5 (by kernel_rfl) hf
  refine (walk l _ _ _ W wl.1 wl.2.1 wl.2.2 (max_of hS)).mono fun e W' ⟨he, hb⟩ => ?_
  subst he
  exact ⟨_, rfl, law_post laidOut (by kernel_rfl) rfl Tryd.underlying4 rfl hW' (fun ds' h => by match ds', h with | [d0], _ => rfl) hb⟩


def laidCells : List (DataW Unit) → Array Value := fun l => (l.flatMap fun | .lit (.int k z) => [Value.int k z] | .agg m => (m.map fun | .lit (.int k z) => Value.int k z | _ => .int .i64 0) | _ => []).toArray
def aggCells : DataW Unit → Array Value
  | .agg l => laidCells l
  | _ => #[]
def sentText : DataW Unit → List UInt8
  | .iface _ (.ptr (.agg [.lit (.string l)])) => l
  | _ => []
/-- A world for the witness: the settled one, the listed variables holding what their initialisers lay. -/
noncomputable def laidWorld (os : Os) : World :=
  let put (h : Array Obj) (g : Nat) (cs : Array Value) : Array Obj := h.modify g fun
    | .cells _ t frozen => .cells cs t frozen
    | o => o
  let w0 := World.holding Tryd.prog os ⟨#[], #[], []⟩
  let h := w0.heap
  let h := put h 5 (aggCells Rows.laid_unicode_utf8_acceptRanges)
  let h := put h 4 (aggCells Rows.laid_unicode_utf8_first)
  { w0 with heap := h }
theorem laid_met (os : Os) : laidMet Tryd.prog Rows.fnSplitRow.laid ((laidWorld os).forCall (fun _ _ => 0) ⟨#[], #[.slice none 0 0], []⟩).memory :=
  laidMet_of_run' 8 (by kernel_rfl) (by kernel_rfl)
theorem reads (os : Os) {H : Type} (enc : TypeId × Value → H) : ∃ places, DataW.whole enc Tryd.prog ((laidWorld os).forCall (fun _ _ => 0) ⟨#[], #[.slice none 0 0], []⟩).memory Tryd.f4.params.toList Rows.fnSplitSpec.vars false (#[.slice none 0 0] : Array Value).toList 8 = some ([.nil], [], places) :=
  ⟨[], by kernel_rfl⟩

set_option maxRecDepth 100000 in
theorem lifted (os : Os) (started : os.Started) (H : Type) (enc : TypeId × Value → H) (F : Stop.Interp) :
    ReturnsInHanded {} Tryd.checked os 4 .any ((OpenSpec.ofChange Rows.fnSplitSpec).preRow enc Tryd.prog Tryd.f4 Rows.fnSplitRow.domain false Rows.fnSplitRow.laid) (((OpenSpec.ofChange Rows.fnSplitSpec).at F).post enc Tryd.prog Tryd.f4 false true false false) := by
  obtain ⟨places, hx⟩ := reads os enc
  refine returnsInHanded_of_row (C := Tryd.checked) (s := (OpenSpec.ofChange Rows.fnSplitSpec)) own started (by kernel_rfl) Tryd.func4
    (witness_row_atRef (enc := enc) (C := Tryd.checked) false (laidWorld os) #[.slice none 0 0] rfl (by kernel_rfl) (by kernel_rfl) (by kernel_rfl)
      (OpenSpec.preRow_of_cond 8 hx (by kernel_rfl) (fun k hk => by cases hk) (by kernel_rfl) (laid_met os))) ?_
  intro W base args ds gs before hval hW _ hcond _ hL hS _
  exact contract H enc W base args ds gs before hval hW hL hS

theorem said : Rows.FnSplitSaid :=
  OpenClaim.holds_of_cond 4 Tryd.f4 rfl rfl rfl rfl rfl rfl rfl ⟨rfl, rfl, rfl, rfl, rfl⟩ rfl rfl rfl rfl rfl (by kernel_rfl) Tryd.func4 (by kernel_rfl)
    (of_decide_eq_true (by kernel_rfl)) (by unfold Func.isWrapper; first | (rw [if_pos (by decide +kernel)]; kernel_rfl) | (rw [if_neg (by decide +kernel)]; exact ⟨rfl, rfl⟩))
    (fun os started H enc _ F => by rw [OpenClaim.pre_eq_preRow]; exact lifted os started H enc F)

theorem plain (f : FuncId) (fn : Func) (hf : Tryd.pinned.checked.prog.funcNamed "loop.example/g00959/laws.FnSplit" = some f) (hfn : Tryd.pinned.checked.prog.funcs[f]? = some fn) :
    true = Tryd.pinned.checked.prog.looks [] ∧ ∀ (j : Nat) t, fn.params[j]? = some t → Tryd.pinned.checked.prog.wantsStandIn t = false := by
  obtain rfl : f = 4 := Option.some.inj ((show Tryd.prog.funcNamed "loop.example/g00959/laws.FnSplit" = some 4 by kernel_rfl).symm.trans hf) |>.symm
  obtain rfl : fn = Tryd.f4 := (Option.some.inj (Tryd.func4.symm.trans hfn)).symm
  refine ⟨by kernel_rfl, fun j t ht => ?_⟩
  rw [Tryd.params4] at ht
  have hall : (Tryd.f4.params.all fun t => !Tryd.prog.wantsStandIn t) = true := by kernel_rfl
  have hm := Array.mem_of_getElem? ht
  rw [← Tryd.params4] at hm
  have := (Array.all_eq_true_iff_forall_mem.1 hall) t hm
  have h2 : Tryd.prog.wantsStandIn t = false := by simpa using this
  exact h2

theorem card : Rows.FnSplitCardSaid :=
  Claim7.holds_tied_plain_at .later [] _ _ _ _ said (fun _ h => by cases h) (by kernel_rfl) (fun _ h => by cases h) fnSplit_row_tie rfl ⟨rfl, rfl⟩ (by kernel_rfl) rfl plain (by kernel_rfl)
end Go.Proofs.YtlemfajiojnonaaDoor.fnSplit
