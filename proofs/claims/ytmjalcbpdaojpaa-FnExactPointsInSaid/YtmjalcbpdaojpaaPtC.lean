/- The program's CountIn. -/
import Derived.Test.YtmjalcbpdaojpaaPtN
namespace Go.Proofs.Ytmjalcbpdaojpaa
open Go Go.RowKit Go.Lib Go.Shelf

attribute [local go_sem] Oper.semAt_some

/-- A block of the caller's own. -/
def OneB {α : Type} (C : Nat) (cs : α → Array Value) (R : TypeId) (s : α) (T : Bs) (W : World) : Prop := T = (fun k => k = C) ∧ Bk W C (cs s) R
theorem oneb_sep {α : Type} (C : Nat) (cs : α → Array Value) (R : TypeId) : Sep (OneB C cs R) := by
  refine ⟨fun s T w hj k hk => ?_, fun s T w w' hj hb hk => ?_⟩
  · obtain ⟨rfl, h⟩ := hj; obtain rfl := hk; exact h.lt
  · obtain ⟨rfl, h⟩ := hj; exact ⟨rfl, (hk C rfl).trans h⟩

set_option maxRecDepth 100000 in
set_option maxHeartbeats 3200000 in
theorem i_countin (r : Rgn) (v : Value) (w : World) (hv : Rg w v r) :
    Calls Try.prog 22 #[v] w (Quiet w (.int .i64 (countR r.1 r.2))) := by
  obtain ⟨n, hs'⟩ := r
  have HR := Lib.hid hv
  obtain ⟨u, rfl, hss⟩ := hv
  simp only at hss ⊢
  have K := Lib.hid (Bk.new w #[.int .i64 n, u] 26)
  have B0 := Lib.hid (below1 w (.cells #[.int .i64 n, u] 26))
  obtain ⟨⟨l0, l1⟩, -⟩ := K.out.two
  clear hss
  by_cases hr : regOk n hs' = true
  case neg =>
    have C1 := Lib.hid (bool_f hr)
    have E := Lib.hid (countR_f (bool_f hr))
    clear hr
    go_enter Try.func22, Try.ntmps22
    go_wp2_with fail
    refine (i_isreg (n, hs') _ _ (HR.out.below B0.out)).mono ?_
    rintro e w1 ⟨rfl, hb⟩
    rw [C1.out]
    have B1 := Lib.hid (B0.out.trans (hb.mono B0.out.size))
    clear hb
    go_wp2_with fail
    go_ret
    exact ⟨ret_int E.out.symm, B1.out⟩
  obtain ⟨m, rfl⟩ : ∃ m : Nat, n = m := ⟨n.toNat, by have := (regOk_t hr).1; omega⟩
  have C1 := Lib.hid hr
  have E := Lib.hid (countR_t hr)
  clear hr
  refine callsIn_wide (n := 9) |>.1 ?_
  refine callsIn_of_wp_marks Try.func22 rfl trivial ?_ rfl
  simp only [Try.ntmps22, List.size_toArray, List.length_cons, List.length_nil, Nat.reduceAdd, Nat.reduceSub, Array.replicate_succ, Array.replicate_zero, List.push_toArray, List.append_toArray, List.nil_append, List.cons_append]
  gi_wp2_with (first | (refine ⟨trivial, ?_⟩; gi_at_call 44; refine (callsIn_wide.2 (i_isreg (m, hs') _ _ (HR.out.below B0.out))).mono ?_; rintro e w1 ⟨rfl, hb⟩; rw [C1.out]; have B1 := Lib.hid (B0.out.trans (hb.mono B0.out.size)); obtain ⟨⟨l2, l3⟩, -⟩ := ((K.out.below hb).alloc (.cells #[.int .i64 0] 3)).two; have B1' := Lib.hid hb; clear hb) | (refine ⟨trivial, ?_⟩; gi_at_call 45; refine (callsIn_wide.2 (i_points (m, hs') _ _ ((HR.out.below B1.out).below (below1 _ _)) C1.out)).mono ?_; rintro e w2 ⟨B, G, g, c, U, rfl, hP, hb2, hB, hG, hg⟩))
  have HC := Lib.hid ((Bk.new w1 #[.int .i64 0] 3).below hb2)
  have HB2 := Lib.hid ((B1.out.alloc B1.out.size (.cells #[.int .i64 0] 3)).trans (hb2.mono (by have := B1.out.size; simp; omega)))
  rw [World.size_alloc] at hB hG hg
  have hC0 := B1.out.size
  have hlen := tri_len_le m hs'
  clear l0 l1 l2 l3 B1' hb2
  have HP := Lib.hid hP
  clear hP
  refine wp_rangeT (gf := 75) (lb := #[.pointer (some ⟨B, 0, none⟩), .pointer (some ⟨G, 0, none⟩)]) rfl (enters_of Try.func75 (by kernel_rfl) rfl)
    (i_points1 B G g c m U hs' C1.out) (fun w' hb => HP.out.fol (Fol.of_below (T := fun _ => False) hb) ⟨id, id, id⟩) (fun _ => rfl)
    (OneB w1.heap.size (fun pre : List (List Int) => #[.int .i64 pre.length]) 3) (fun _ _ _ _ => False)
    (fun x a' pre T' W' => a' = { tmps := #[.agg #[.int .i64 m, u], .pointer (some ⟨w.heap.size, 0, none⟩), .int .i64 0, .pointer (some ⟨w1.heap.size, 0, none⟩), .agg #[.int .i64 m, u], .bool true, .bool false, .agg #[.int .i64 m, u],
      .func (.func 75) #[] #[.pointer (some ⟨B, 0, none⟩), .pointer (some ⟨G, 0, none⟩)], nums3 x, undef, undef, undef], defers := [] } ∧ OneB w1.heap.size (fun pre : List (List Int) => #[.int .i64 pre.length]) 3 pre T' W')
    (oneb_sep _ _ _) (fun cc => Sep.no) (fun x a' => sep_and (oneb_sep _ _ _) _) (fun k => k = w1.heap.size) ⟨rfl, HC.out⟩ ?hu ?assign ?body ?done ?stop
  case hu =>
    rintro k (rfl | rfl | rfl)
    · exact ⟨HP.out.1.lt, by omega⟩
    · exact ⟨HP.out.2.1.lt, by omega⟩
    · exact ⟨HP.out.2.2.tight.2.2, by omega⟩
  case assign =>
    intro l2 pre x T2 W2 hsz hj hg hf hpre
    have HJ2 := Lib.hid hj
    clear hj hg hf hpre
    unfold encN
    gi_wp2
    exact ⟨T2, Grew.refl _ _, Fol.refl _ _, by simp, HJ2.out⟩
  case body =>
    rintro l2 pre x a' T2 W2 hsz ⟨rfl, rfl, hj⟩ hg hf hpre
    have c0 : W2.cell? ⟨w1.heap.size, 0, none⟩ = some (.int .i64 pre.length) := hj.cell 0 rfl
    have f0 := hj.free 0
    have hl := pre_len hpre
    have HJ2 := Lib.hid hj
    clear hj hg hf hpre
    gi_wp2
    refine ⟨fun k => k = w1.heap.size, Grew.refl _ _, (Fol.refl (fun k => k = w1.heap.size) _).setCell (p := ⟨w1.heap.size, 0, none⟩) (.inl rfl) _, rfl, ?_⟩
    have := HJ2.out.set 0 (.int .i64 ((pre.length : Int) + 1)) (by simp)
    simpa using this
  case done =>
    rintro T' W2 hg2 hf hsz ⟨rfl, hj⟩ hn hK
    have c0 : W2.cell? ⟨w1.heap.size, 0, none⟩ = some (.int .i64 (triR m hs').length) := hj.cell 0 rfl
    have HB4 := Lib.hid (HB2.out.trans (hf.to_below (B := w.heap.size) (fun k e => by omega) HB2.out.size))
    have hD := HB2.out.size
    clear hf hg2 hj
    gi_wp2
    refine ⟨by simp, .inl ⟨_, _, rfl, run_takeDeferred hK, ?_⟩⟩
    exact ⟨.int .i64 (triR m hs').length, results_tmp (t := 2) rfl _ _ _, ret_int E.out.symm, HB4.out.trans ((Below.refl _ W2).grown (grownBy_putObj' W2 w2.heap.size (.deferred none)) (by omega) (fun k e => by cases e; omega))⟩
  case stop => exact fun cc pre T' W2 _ _ _ _ h _ _ => h.elim
end Go.Proofs.Ytmjalcbpdaojpaa
