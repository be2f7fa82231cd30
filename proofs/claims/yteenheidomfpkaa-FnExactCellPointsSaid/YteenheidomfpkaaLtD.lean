/- The program's leadersOf. -/
import Derived.Test.YteenheidomfpkaaLtO
import Derived.Test.YteenheidomfpkaaMbc
import Derived.Carry
namespace Go.Proofs.Yteenheidomfpkaa
open Go Go.RowKit Go.Lib

set_option maxRecDepth 100000 in
theorem i_keysv (b : Nat) (w : World) : Calls Try.prog 113 #[.map (some b)] w fun e w' =>
    e = .returned (.func (.func 124) #[] #[.pointer (some ⟨w.heap.size, 0, none⟩)]) ∧ w' = w.alloc (.cells #[.map (some b)] 85) := by
  go_enter Try.func113, Try.ntmps113
  go_wp2
  go_ret
  exact ⟨rfl, rfl⟩
set_option maxRecDepth 100000 in
theorem i_collect (Bm b N : Nat) (S : List T3) (w : World) (hBm : Bm < w.heap.size) (hm : w.cell? ⟨Bm, 0, none⟩ = some (.map (some b))) (hown : SetM w b N S) (hN : N ≤ 1048576) :
    Calls Try.prog 123 #[.func (.func 124) #[] #[.pointer (some ⟨Bm, 0, none⟩)]] w (Made3 S w) := by
  have CA := Lib.hid (callsIn_wide.1 (i_aseq Bm b N S w hBm hm hown hN))
  clear hBm hm hown hN
  go_enter Try.func123, Try.ntmps123
  go_wp2_with fail
  refine CA.out.mono ?_
  rintro e w1 ⟨v, xs, rfl, h1, h2, h3⟩
  go_wp2_with fail
  go_ret
  exact ⟨v, xs, rfl, h1, h2, h3⟩
theorem nodup_len : ∀ {l l' : List T3}, l.Nodup → (∀ t ∈ l, t ∈ l') → l.length ≤ l'.length
  | [], _, _, _ => Nat.zero_le _
  | x :: l, l', hn, hs => by
    obtain ⟨h1, h2⟩ := List.nodup_cons.1 hn
    have hx := hs x (by simp)
    have ih := nodup_len (l := l) (l' := l'.erase x) h2 (fun t ht => (List.mem_erase_of_ne (fun e => h1 (by rw [← e]; exact ht))).2 (hs t (by simp [ht])))
    have hp := List.length_pos_of_mem hx
    rw [List.length_erase_of_mem hx] at ih
    simp only [List.length_cons]
    omega
theorem sorted_strict {l : List T3} (hn : l.Nodup) (hp : l.Pairwise fun a b => ¬ ltT b a) : l.Pairwise ltT := by
  refine List.Pairwise.imp (R := fun a b => a ≠ b ∧ ¬ ltT b a) ?_ (List.pairwise_and_iff.2 ⟨hn, hp⟩)
  rintro ⟨a0, a1, a2⟩ ⟨b0, b1, b2⟩ ⟨h1, h2⟩
  unfold ltT at *
  simp only [ne_eq, Prod.mk.injEq] at h1 h2 ⊢
  omega
/-- The keys of S in order. -/
def Keys3 (S : List T3) (w : World) (e : Ending) (w' : World) : Prop := ∃ (v : Value) (xs : List T3), e = .returned v ∧ xs.Pairwise ltT ∧ (∀ t, t ∈ xs ↔ (W3 t ∧ t ∈ S)) ∧ Ow3 w.heap.size w'.heap.size w' v xs ∧ Below w.heap.size w w'
set_option maxRecDepth 100000 in
theorem i_sortedf (Bm b N : Nat) (S : List T3) (t0 : T3) (ht0 : W3 t0 ∧ t0 ∈ S) (w : World) (hBm : Bm < w.heap.size) (hm : w.cell? ⟨Bm, 0, none⟩ = some (.map (some b))) (hown : SetM w b N S) (hN : N ≤ 1048576) (B : List T3) (hSB : ∀ t ∈ S, t ∈ B) (hS : B.length ≤ 1048576) :
    Calls Try.prog 112 #[.func (.func 124) #[] #[.pointer (some ⟨Bm, 0, none⟩)], .func (.func 80) #[] #[]] w (Keys3 S w) := by
  have CA := Lib.hid (i_collect Bm b N S w hBm hm hown hN)
  clear hBm hm hown hN
  go_enter Try.func112, Try.ntmps112
  go_wp2_with fail
  refine CA.out.mono ?_
  rintro e w1 ⟨v, xs, rfl, ⟨hnd, hall⟩, ho, hb⟩
  have hmem := (hall t0).2 ht0
  have hpos : 0 < xs.length := List.length_pos_of_mem hmem
  have hlen : xs.length ≤ 1048576 := by
    refine Nat.le_trans ?_ hS
    exact nodup_len hnd (fun t ht => hSB t ((hall t).1 ht).2)
  obtain ⟨g, cap, rfl⟩ := Go.Joins.ownsRow_form ho.1 hpos
  have HO := Lib.hid ho
  have HB := Lib.hid hb
  obtain ⟨nx, hnx⟩ : ∃ nx, xs.length = nx := ⟨_, rfl⟩
  have hg : w.heap.size ≤ g := (ho.1.lt g rfl).1
  rw [hnx] at HO hlen ⊢
  have CS := Lib.hid (i_sort3 xs w.heap.size w1.heap.size g nx cap w1 hnx hlen HO.out)
  have HA := Lib.hid (And.intro hnd hall)
  clear ho hb hmem hpos hnx hall hnd hlen
  go_wp2_with fail
  refine CS.out.mono ?_
  rintro e w2 ⟨rfl, D, h1, h2, h3, h4, h5, h6⟩
  have HR := Lib.hid (show Keys3 S w (.returned (.slice (some ⟨g, 0, none⟩) nx cap)) w2 from ⟨_, D, rfl, sorted_strict (h3 HA.out.1) h4, fun t => by rw [h1 t]; exact HA.out.2 t, h5, HB.out.grown h6 HB.out.size (fun k e => by cases e; exact hg)⟩)
  clear h1 h2 h3 h4 h5 h6
  go_wp2_with fail
  go_ret
  exact HR.out
/-- The leaders, in order. -/
def Lead3 (h : H6) (w : World) (e : Ending) (w' : World) : Prop := ∃ v, e = .returned v ∧ Ow3 w.heap.size w'.heap.size w' v (boxT h) ∧ Below w.heap.size w w'
theorem w3_in {h : H6} (s : h.Sm) {t : T3} (i : InT h t) : W3 t := by
  have hb := lead_bd s i
  exact w3_of (by omega) (by omega) (by omega)
set_option maxRecDepth 100000 in
set_option maxHeartbeats 1600000 in
theorem i_leaders (h : H6) (k : h.Ok) (s : h.Sm) (hc : (boxT h).length ≤ 1048576) (w : World) :
    Calls Try.prog 73 #[gridV h] w (Lead3 h w) := by
  have hmm := @run_makeMap Try.prog
  have B0 := Lib.hid (below2 w (.cells #[.int .i64 h.d0, .int .i64 h.a, .int .i64 h.b, .int .i64 0, .int .i64 h.d1, .int .i64 h.c, .int .i64 0, .int .i64 0, .int .i64 h.d2] 43) (.map #[] 0))
  have M0 := Lib.hid (SetM.made (w.alloc (.cells #[.int .i64 h.d0, .int .i64 h.a, .int .i64 h.b, .int .i64 0, .int .i64 h.d1, .int .i64 h.c, .int .i64 0, .int .i64 0, .int .i64 h.d2] 43)))
  rw [World.size_alloc] at M0
  have hbx : ∀ t ∈ ([] : List T3), InT h t := fun t ht => by simp at ht
  have CK := Lib.hid (fun W hW => i_keep h k s (w.heap.size + 1) (boxT h).length (by unfold maxLen; omega) (Miss h []) [] (0, 0, 0) 0 W (Nat.le_refl _) (by rw [miss_nil]; omega) hbx hW (by simp) (by simp) (by simp))
  have CB := Lib.hid (fun (S : List T3) (g : Grows h [] (0, 0, 0) S) t => show t ∈ S ↔ InT h t from ⟨fun ht => g.box t ht, fun ht => reach_all k (S := fun t => t ∈ S) g.has (fun t ht j hj => g.shut t ht (by simp) j hj) t ht⟩)
  have HW := Lib.hid (fun t (i : InT h t) => w3_in s i)
  have hL := lead_in k (0, 0, 0)
  have HL := Lib.hid hL
  have HC := Lib.hid hc
  unfold gridV at CK ⊢
  unfold encV at CK
  simp only at CK ⊢
  clear hbx hL k s hc
  go_enter Try.func73, Try.ntmps73
  go_wp2_with fail
  refine (CK.out _ M0.out).mono ?_
  rintro e w1 ⟨v, S, n, rfl, ho, hn, hg, hgr⟩
  have B1 := Lib.hid (B0.out.grown hgr B0.out.size (fun q e => by cases e; omega))
  have KM := Lib.hid ho
  have hnn : n ≤ 1048576 := by have := HC.out; omega
  have GR := Lib.hid hg
  clear ho hn hg hgr
  go_wp2_with fail
  refine (i_keysv (w.heap.size + 1) w1).mono ?_
  rintro e w2 ⟨rfl, rfl⟩
  have B2 := Lib.hid (B1.out.alloc B1.out.size (.cells #[.map (some (w.heap.size + 1))] 85))
  have hbk := Bk.new w1 #[.map (some (w.heap.size + 1))] 85
  have CS := Lib.hid (i_sortedf w1.heap.size (w.heap.size + 1) n S (leadT h (0, 0, 0)) ⟨HW.out _ HL.out, GR.out.has⟩ _ hbk.lt (hbk.cell 0 rfl) (KM.out.kept (grown_alloc _ _ none) (by simp)) hnn (boxT h) (fun t ht => mem_boxT.2 (GR.out.box t ht)) HC.out)
  clear hbk
  go_wp2_with fail
  refine CS.out.mono ?_
  rintro e w3 ⟨v3, xs, rfl, h1, h2, h3, h4⟩
  have hxs : xs = boxT h := sorted_ext h1 (boxT_sorted h) (fun t => by
    rw [h2 t, CB.out S GR.out t, mem_boxT]
    exact ⟨fun h => h.2, fun h => ⟨HW.out t h, h⟩⟩)
  subst hxs
  have HO := Lib.hid (h3.mono B2.out.size (Nat.le_refl _))
  have HB := Lib.hid (B2.out.trans (h4.mono B2.out.size))
  clear h1 h2 h3 h4
  go_wp2_with fail
  go_ret
  exact ⟨_, rfl, HO.out, HB.out⟩
end Go.Proofs.Yteenheidomfpkaa
