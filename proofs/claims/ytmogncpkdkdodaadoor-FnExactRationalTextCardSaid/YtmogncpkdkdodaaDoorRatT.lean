/- Rational points as texts. -/
import Derived.Test.YtmogncpkdkdodaaDoorTxt
import Derived.Test.YtmogncpkdkdodaaDoorRgT
import Derived.Test.YtmogncpkdkdodaaDoorRtTo
import Derived.Deep.RegionHeld3
namespace Go.Proofs.YtmogncpkdkdodaaDoor
open Go Go.RowKit Go.Lib

/-- A point as a text: slash 47. -/
def textQ (p : Hf) : List UInt8 := if p.1.length = 0 ∨ p.2 < 1 then [] else if p.2 = 1 then textL p.1 else textL p.1 ++ 47 :: itoa p.2
theorem textQ_none {p : Hf} (h : p.1.length = 0 ∨ p.2 < 1) : textQ p = [] := if_pos h
theorem textQ_one {p : Hf} (h : ¬ (p.1.length = 0 ∨ p.2 < 1)) (h1 : p.2 = 1) : textQ p = textL p.1 := by unfold textQ; rw [if_neg h, if_pos h1]
theorem textQ_den {p : Hf} (h : ¬ (p.1.length = 0 ∨ p.2 < 1)) (h1 : ¬ p.2 = 1) : textQ p = textL p.1 ++ 47 :: itoa p.2 := by unfold textQ; rw [if_neg h, if_neg h1]
/-- A point whose numbers are all of the machine. -/
def HvW (w : World) (v : Value) (p : Hf) : Prop := Hv w v p ∧ (Lit.int .i64 p.2).wf = true ∧ ∀ y ∈ p.1, (Lit.int .i64 y).wf = true
theorem HvW.below {w w' : World} {v : Value} {p : Hf} (k : HvW w v p) (hb : Below w.heap.size w w') : HvW w' v p := ⟨k.1.below hb, k.2⟩
theorem wfs_w64 {v : List Int} (h : ∀ y ∈ v, (Lit.int .i64 y).wf = true) : W64 v := fun k hk => bounds_i64 (h _ (List.getElem_mem hk))
theorem slash {t m : List UInt8} : ((⟨t.toArray⟩ : ByteArray) ++ ⟨#[47]⟩ ++ ⟨m.toArray⟩ : ByteArray) = ⟨(t ++ 47 :: m).toArray⟩ := by
  refine ByteArray.ext (Array.toList_inj.1 ?_)
  simp
theorem slash2 {t m : List UInt8} : ((⟨t.toArray⟩ : ByteArray) ++ (⟨#[47]⟩ ++ ⟨m.toArray⟩) : ByteArray) = ⟨(t ++ 47 :: m).toArray⟩ := by
  refine ByteArray.ext (Array.toList_inj.1 ?_)
  simp
theorem keepF2 {w W : World} {p q : Addr} {x y : Value} (h1 : W.cell? p = some x) (h2 : W.cell? q = some y) (h3 : Below w.heap.size w W) : W.drew.cell? p = some x ∧ W.drew.cell? q = some y ∧ Below w.heap.size w W.drew := ⟨h1, h2, h3.drew⟩
theorem keepE2 {w W w1 : World} {p q : Addr} {x y : Value} (hp : p.block < w.heap.size) (hq : q.block < w.heap.size) (h1 : W.cell? p = some x) (h2 : W.cell? q = some y) (h3 : Below w.heap.size w W) (hb : Below W.heap.size W w1) :
    w1.cell? p = some x ∧ w1.cell? q = some y ∧ Below w.heap.size w w1 :=
  ⟨(hb.cell (Nat.lt_of_lt_of_le hp h3.size)).trans h1, (hb.cell (Nat.lt_of_lt_of_le hq h3.size)).trans h2, h3.trans (hb.mono h3.size)⟩

set_option maxRecDepth 100000 in
set_option maxHeartbeats 800000 in
theorem s_rtext (p : Hf) (v : Value) (w : World) (hm : p.1.length ≤ 1048576) (hv : HvW w v p) :
    Calls Tryd.prog 40 #[v] w (Quiet w (.string ⟨(textQ p).toArray⟩)) := by
  obtain ⟨hv, hw2, hw1⟩ := hv
  obtain ⟨u, rfl, hs⟩ := hv
  have HS := Lib.hid hs
  have HW := Lib.hid (wfs_w64 hw1)
  obtain ⟨b1, b2⟩ := bounds_i64 hw2
  obtain ⟨a, c, rfl, _, _⟩ := hs.shape
  rw [intVals_len] at HS ⊢
  have K := Lib.hid (Bk.new w #[.slice a p.1.length c, .int .i64 p.2] 59)
  have B0 := Lib.hid (below1 w (.cells #[.slice a p.1.length c, .int .i64 p.2] 59))
  clear hs hw1 hw2
  by_cases h0 : p.1.length = 0
  · have E := Lib.hid (textQ_none (p := p) (.inl h0))
    have e0 : ((p.1.length : Int) == 0) = true := by rw [beq_iff_eq]; omega
    clear h0
    go_enter Tryd.func40, Tryd.ntmps40
    go_wp2_with fail
    go_ret
    exact ⟨ret_str E.out.symm, B0.out⟩
  have e0 : ((p.1.length : Int) == 0) = false := by rw [beq_eq_false_iff_ne]; omega
  by_cases h1 : p.2 < 1
  · have E := Lib.hid (textQ_none (p := p) (.inr h1))
    go_enter Tryd.func40, Tryd.ntmps40
    go_wp2_with fail
    go_ret
    exact ⟨ret_str E.out.symm, B0.out⟩
  have hno : ¬ (p.1.length = 0 ∨ p.2 < 1) := by omega
  by_cases h2 : p.2 = 1
  · have E := Lib.hid (textQ_one hno h2)
    have e2 : (p.2 == 1) = true := by rw [beq_iff_eq]; exact h2
    clear hno h2 h0
    go_enter Tryd.func40, Tryd.ntmps40
    go_wp2_with fail
    refine (s_l2text p.1 HW.out hm _ _ (HS.out.below B0.out)).mono ?_
    rintro e w1 ⟨rfl, hb⟩
    have B1 := Lib.hid (B0.out.trans (hb.mono B0.out.size))
    clear hb
    go_wp2_with fail
    go_ret
    exact ⟨ret_str E.out.symm, B1.out⟩
  · have E := Lib.hid (textQ_den hno h2)
    have e2 : (p.2 == 1) = false := by rw [beq_eq_false_iff_ne]; exact h2
    have TL := textL_len p.1 HW.out
    have NL := itoa_length_le p.2 b1 b2
    obtain ⟨S, hS⟩ : ∃ S : ByteArray, ⟨(textL p.1).toArray⟩ = S := ⟨_, rfl⟩
    obtain ⟨N, hN⟩ : ∃ N : ByteArray, ⟨(itoa p.2).toArray⟩ = N := ⟨_, rfl⟩
    have hS1 : S.size ≤ 23068672 := by rw [← hS]; show (textL p.1).toArray.size ≤ _; rw [List.size_toArray]; omega
    have hN1 : N.size ≤ 21 := by rw [← hN]; show (itoa p.2).toArray.size ≤ _; rw [List.size_toArray]; omega
    have hz1 : S.size + (⟨#[47]⟩ : ByteArray).size ≤ 9223372036854775807 := by show S.size + 1 ≤ _; omega
    have hz2 : (S ++ (⟨#[47]⟩ : ByteArray)).size + N.size ≤ 9223372036854775807 := by rw [ByteArray.size_append]; show S.size + 1 + N.size ≤ _; omega
    have hz3 : (⟨#[47]⟩ : ByteArray).size + N.size ≤ 9223372036854775807 := by show 1 + N.size ≤ _; omega
    have hz4 : S.size + ((⟨#[47]⟩ : ByteArray) ++ N).size ≤ 9223372036854775807 := by rw [ByteArray.size_append]; show S.size + (1 + N.size) ≤ _; omega
    have hr1 : ∀ W, (Op.stringOp .add S ⟨#[47]⟩).run Tryd.prog W = .ok (.string (S ++ ⟨#[47]⟩)) W := fun W => run_string_add_sum W _ _ hz1
    have hr2 : ∀ W, (Op.stringOp .add (S ++ ⟨#[47]⟩) N).run Tryd.prog W = .ok (.string (S ++ ⟨#[47]⟩ ++ N)) W := fun W => run_string_add_sum W _ _ hz2
    have hr3 : ∀ W, (Op.stringOp .add ⟨#[47]⟩ N).run Tryd.prog W = .ok (.string (⟨#[47]⟩ ++ N)) W := fun W => run_string_add_sum W _ _ hz3
    have hr4 : ∀ W, (Op.stringOp .add S (⟨#[47]⟩ ++ N)).run Tryd.prog W = .ok (.string (S ++ (⟨#[47]⟩ ++ N))) W := fun W => run_string_add_sum W _ _ hz4
    have HSE := Lib.hid hS
    have HNE := Lib.hid hN
    have CT := Lib.hid (fun (W : World) (h : Sl W (.slice a p.1.length c) (intVals p.1)) => s_l2text p.1 HW.out hm _ W h)
    have CF := Lib.hid (fun (W : World) => fi_any p.2 b1 b2 W)
    rw [hS] at CT
    rw [hN] at CF
    obtain ⟨⟨l0, l1⟩, -⟩ := K.out.two
    have hlt := K.out.lt
    clear hno h2 h0 TL NL hS hN
    go_enter Tryd.func40, Tryd.ntmps40
    go_wp2_with fail
    go_region_held3 (fun w' => w'.cell? ⟨w.heap.size, 0, none⟩ = some (.slice a p.1.length c) ∧ w'.cell? ⟨w.heap.size, 1, none⟩ = some (.int .i64 p.2) ∧ Below (w.alloc (.cells #[.slice a p.1.length c, .int .i64 p.2] 59)).heap.size (w.alloc (.cells #[.slice a p.1.length c, .int .i64 p.2] 59)) w')
      (first
        | with_reducible exact keepF2 l0 l1 (Below.refl _ _)
        | (go_split_ands; with_reducible exact keepE2 hlt hlt (by assumption) (by assumption) (by assumption) (by assumption))
        | go_keep)
      (first
        | (go_at_call 76; refine (CT.out _ (HS.out.below (B0.out.drew))).mono ?_; rintro e w1 ⟨rfl, hb1⟩)
        | (go_at_call 80; refine (CF.out _).mono ?_; rintro e w2 ⟨rfl, hb2⟩))
    rename_i hH
    have B1 := Lib.hid (B0.out.trans (hH.2.2.mono B0.out.size))
    clear hH l0 l1
    go_wp2
    go_ret
    refine ⟨show Ending.returned (.string (S ++ ⟨#[47]⟩ ++ N)) = _ from ?_, B1.out⟩
    rw [← HSE.out, ← HNE.out, slash, E.out]

set_option maxRecDepth 100000 in
set_option maxHeartbeats 800000 in
theorem i_rtext (p : Hf) (v : Value) (w : World) (hm : p.1.length ≤ 1048576) (hx : HasPow w) (hv : HvW w v p) :
    Calls Tryd.prog 42 #[v] w (Quiet w (.string ⟨(textQ p).toArray⟩)) := by
  obtain ⟨hv, hw2, hw1⟩ := hv
  obtain ⟨u, rfl, hs⟩ := hv
  have HX := Lib.hid hx
  have HS := Lib.hid hs
  have HW := Lib.hid (wfs_w64 hw1)
  obtain ⟨b1, b2⟩ := bounds_i64 hw2
  obtain ⟨a, c, rfl, _, _⟩ := hs.shape
  rw [intVals_len] at HS ⊢
  have K := Lib.hid (Bk.new w #[.slice a p.1.length c, .int .i64 p.2] 59)
  have B0 := Lib.hid (below1 w (.cells #[.slice a p.1.length c, .int .i64 p.2] 59))
  clear hs hw1 hw2 hx
  by_cases h0 : p.1.length = 0
  · have E := Lib.hid (textQ_none (p := p) (.inl h0))
    have e0 : ((p.1.length : Int) == 0) = true := by rw [beq_iff_eq]; omega
    clear h0
    go_enter Tryd.func42, Tryd.ntmps42
    go_wp2_with fail
    go_ret
    exact ⟨ret_str E.out.symm, B0.out⟩
  have e0 : ((p.1.length : Int) == 0) = false := by rw [beq_eq_false_iff_ne]; omega
  by_cases h1 : p.2 < 1
  · have E := Lib.hid (textQ_none (p := p) (.inr h1))
    go_enter Tryd.func42, Tryd.ntmps42
    go_wp2_with fail
    go_ret
    exact ⟨ret_str E.out.symm, B0.out⟩
  have hno : ¬ (p.1.length = 0 ∨ p.2 < 1) := by omega
  by_cases h2 : p.2 = 1
  · have E := Lib.hid (textQ_one hno h2)
    have e2 : (p.2 != 1) = false := by rw [bne_eq_false_iff_eq]; exact h2
    clear hno h2 h0
    go_enter Tryd.func42, Tryd.ntmps42
    go_wp2_with fail
    refine (i_comma p.1 HW.out hm _ _ (HX.out.below B0.out) (HS.out.below B0.out)).mono ?_
    rintro e w1 ⟨rfl, hb⟩
    have B1 := Lib.hid (B0.out.trans (hb.mono B0.out.size))
    obtain ⟨⟨l0, l1⟩, -⟩ := (K.out.below hb).two
    clear hb
    go_wp2_with fail
    go_ret
    exact ⟨ret_str E.out.symm, B1.out⟩
  · have E := Lib.hid (textQ_den hno h2)
    have e2 : (p.2 != 1) = true := by rw [bne_iff_ne]; exact h2
    have TL := textL_len p.1 HW.out
    have NL := itoa_length_le p.2 b1 b2
    obtain ⟨S, hS⟩ : ∃ S : ByteArray, ⟨(textL p.1).toArray⟩ = S := ⟨_, rfl⟩
    obtain ⟨N, hN⟩ : ∃ N : ByteArray, ⟨(itoa p.2).toArray⟩ = N := ⟨_, rfl⟩
    have hS1 : S.size ≤ 23068672 := by rw [← hS]; show (textL p.1).toArray.size ≤ _; rw [List.size_toArray]; omega
    have hN1 : N.size ≤ 21 := by rw [← hN]; show (itoa p.2).toArray.size ≤ _; rw [List.size_toArray]; omega
    have hz1 : S.size + (⟨#[47]⟩ : ByteArray).size ≤ 9223372036854775807 := by show S.size + 1 ≤ _; omega
    have hz2 : (S ++ (⟨#[47]⟩ : ByteArray)).size + N.size ≤ 9223372036854775807 := by rw [ByteArray.size_append]; show S.size + 1 + N.size ≤ _; omega
    have hz3 : (⟨#[47]⟩ : ByteArray).size + N.size ≤ 9223372036854775807 := by show 1 + N.size ≤ _; omega
    have hz4 : S.size + ((⟨#[47]⟩ : ByteArray) ++ N).size ≤ 9223372036854775807 := by rw [ByteArray.size_append]; show S.size + (1 + N.size) ≤ _; omega
    have hr1 : ∀ W, (Op.stringOp .add S ⟨#[47]⟩).run Tryd.prog W = .ok (.string (S ++ ⟨#[47]⟩)) W := fun W => run_string_add_sum W _ _ hz1
    have hr2 : ∀ W, (Op.stringOp .add (S ++ ⟨#[47]⟩) N).run Tryd.prog W = .ok (.string (S ++ ⟨#[47]⟩ ++ N)) W := fun W => run_string_add_sum W _ _ hz2
    have hr3 : ∀ W, (Op.stringOp .add ⟨#[47]⟩ N).run Tryd.prog W = .ok (.string (⟨#[47]⟩ ++ N)) W := fun W => run_string_add_sum W _ _ hz3
    have hr4 : ∀ W, (Op.stringOp .add S (⟨#[47]⟩ ++ N)).run Tryd.prog W = .ok (.string (S ++ (⟨#[47]⟩ ++ N))) W := fun W => run_string_add_sum W _ _ hz4
    have HSE := Lib.hid hS
    have HNE := Lib.hid hN
    have CT := Lib.hid (fun (W : World) (hx : HasPow W) (h : Sl W (.slice a p.1.length c) (intVals p.1)) => i_comma p.1 HW.out hm _ W hx h)
    have CF := Lib.hid (fun (W : World) (hx : HasPow W) => ifi p.2 b1 b2 W hx)
    rw [hS] at CT
    rw [hN] at CF
    clear hno h2 h0 TL NL hS hN
    go_enter Tryd.func42, Tryd.ntmps42
    go_wp2_with fail
    refine (CT.out _ (HX.out.below B0.out) (HS.out.below B0.out)).mono ?_
    rintro e w1 ⟨rfl, hb⟩
    have B1 := Lib.hid (B0.out.trans (hb.mono B0.out.size))
    obtain ⟨⟨l0, l1⟩, -⟩ := (K.out.below hb).two
    clear hb
    go_wp2_with fail
    refine (CF.out _ (HX.out.below B1.out)).mono ?_
    rintro e w2 ⟨rfl, hb⟩
    have B2 := Lib.hid (B1.out.trans (hb.mono B1.out.size))
    clear hb l0 l1
    go_wp2
    go_ret
    refine ⟨show Ending.returned (.string (S ++ (⟨#[47]⟩ ++ N))) = _ from ?_, B2.out⟩
    rw [← HSE.out, ← HNE.out, slash2, E.out]
end Go.Proofs.YtmogncpkdkdodaaDoor
