/- A drawn region. -/
import Derived.Test.YtmogncpkdkdodaaDrawReg
import Derived.Test.YtmogncpkdkdodaaMax
import Derived.Test.YtmogncpkdkdodaaOrd
namespace Go.Proofs.Ytmogncpkdkdodaa
open Go Go.RowKit Go.Lib

/-- What l4Draw's loops keep. -/
def DrI (base p n : Nat) (w : World) (V : Value) (hs : List Hf) (wr : World) : Prop :=
  Bk wr w.heap.size #[.int .i64 0, .slice none 0 0] 26 ∧ Bk wr (w.heap.size + 1) #[.int .i64 n, V] 26 ∧ OwH 48 3 (w.heap.size + 2) wr.heap.size wr V hs ∧ CurAt base wr p ∧ Kept p (p + 1) w wr ∧ w.heap.size + 2 ≤ wr.heap.size ∧ (∀ h, h ∈ hs → h.1.length = n)
/-- A region was drawn. -/
def DrewG (base p : Nat) (w : World) (P : Rgn → Prop) (e : Ending) (w' : World) : Prop :=
  (∃ v r, e = .returned v ∧ P r ∧ OwG w.heap.size w'.heap.size w' v r) ∧ CurAt base w' p ∧ Kept p (p + 1) w w'

set_option maxRecDepth 100000 in
set_option maxHeartbeats 3200000 in
theorem d_region (base p n : Nat) (hn1 : 1 ≤ n) (hn : n ≤ 3) (w : World) (hc : CurAt base w p) :
    Calls Try.prog 95 #[.pointer (some ⟨p, 0, none⟩), .int .i64 n] w (DrewG base p w (fun r => r.1 = n ∧ 1 ≤ r.2.length ∧ r.2.length ≤ 6 ∧ ∀ h, h ∈ r.2 → h.1.length = n)) := by
  have hp := hc.lt
  obtain ⟨i0, hi, hz0, hz1, hz2⟩ := info_parts info_int'
  have HI := Lib.hid (And.intro hi (And.intro hz0 (And.intro hz1 hz2)))
  clear hi hz0 hz1 hz2
  have K0 := Lib.hid (Bk.pair w #[.int .i64 0, .slice none 0 0] #[.int .i64 n, .slice none 0 0] 26 26)
  have hb2 := below2 w (.cells #[.int .i64 0, .slice none 0 0] 26) (.cells #[.int .i64 n, .slice none 0 0] 26)
  have HC0 := Lib.hid (hc.below hb2)
  have HB0 := Lib.hid hb2
  clear hc hb2
  go_enter Try.func95, Try.ntmps95
  go_wp2_with fail
  refine (d_once base p 2 _ HC0.out (by omega) (by omega)).mono ?_
  rintro e w1 ⟨⟨coin, rfl⟩, hc1, hk1⟩
  have ST := Lib.hid (show DrI base p n w (.slice none 0 0) [] w1 from ⟨K0.out.1.kept hk1 (.inr (by omega)), K0.out.2.kept hk1 (.inr (by omega)), OwH.nil, hc1, (Kept.of_below HB0.out).trans hk1, by have := hk1.size; simp at this; omega, fun h hh => by cases hh⟩)
  clear hc1 hk1
  cases coin with
  | false =>
    go_wp2_with fail
    refine (draw_below base p 3 _ ST.out.2.2.2.1 (by omega) (by omega)).mono ?_
    rintro e w2 ⟨⟨v2, rfl, y, rfl, y0, y1⟩, hc2, hg2⟩
    have hk2 := Kept.of_grown hg2
    obtain ⟨m, rfl⟩ : ∃ m : Nat, y = m := ⟨y.toNat, by omega⟩
    have hm : m ≤ 2 := by omega
    have S2 := Lib.hid (show DrI base p n w (.slice none 0 0) [] w2 from ⟨ST.out.1.kept hk2 (.inr (by omega)), ST.out.2.1.kept hk2 (.inr (by omega)), (ST.out.2.2.1.kept hk2 (.inr (by omega))).mono (Nat.le_refl _) hk2.size, hc2, ST.out.2.2.2.2.1.trans hk2, Nat.le_trans ST.out.2.2.2.2.2.1 hk2.size, ST.out.2.2.2.2.2.2⟩)
    clear hc2 hg2 hk2
    go_wp2
    go_loopw [9] (fun i wr => ∃ (j : Nat) (V : Value) (hs : List Hf), j ≤ 1 + m ∧ i = .int .i64 j ∧ hs.length = j + 0 ∧ DrI base p n w V hs wr) (fun i _ => 1 + m - (RowKit.intOf i).toNat)
    case atStart => exact ⟨0, _, _, by omega, rfl, by simp, S2.out⟩
    case round =>
      obtain ⟨j, V, hs, hj, rfl, hlen, hci⟩ := hrel
      have HC := Lib.hid hci
      have HLN := Lib.hid hlen
      clear hci hlen
      obtain ⟨⟨l0, l1⟩, -⟩ := HC.out.2.1.two
      by_cases hlt : j < 1 + m
      · go_wp2
        refine T_begin (z := fun k => 6 < k) (S := fun (w' : World) => w'.cell? ⟨w.heap.size + 1, 1, none⟩ = some V) (by kernel_rfl) ?_
        show wpAnyT _ _ _ _ _ _ 9 _ _ _
        have hS0 := Lib.hid (show (fun (w' : World) => w'.cell? ⟨w.heap.size + 1, 1, none⟩ = some V) _ from l1)
        refine T_take (i := 0) (v := (.pointer (some ⟨w.heap.size + 1, 1, none⟩))) rfl (by kernel_rfl) (by kernel_rfl) (by kernel_rfl) (by kernel_rfl) (fun _ _ _ h => h) hS0.out (by kernel_rfl) (fun w' hS' => by (try dsimp only at hS'); go_simp) ?_
        refine T_take (i := 1) (v := V) rfl (by kernel_rfl) (by kernel_rfl) (by kernel_rfl) (by kernel_rfl) (fun _ _ _ h => h) hS0.out (by kernel_rfl) (fun w' hS' => by (try dsimp only at hS'); go_simp) ?_
        refine T_take (i := 2) (v := (.pointer (some ⟨p, 0, none⟩))) rfl (by kernel_rfl) (by kernel_rfl) (by kernel_rfl) (by kernel_rfl) (fun _ _ _ h => h) hS0.out (by kernel_rfl) (fun w' hS' => by (try dsimp only at hS'); go_simp) ?_
        refine T_take (i := 3) (v := (.int .i64 n)) rfl (by kernel_rfl) (by kernel_rfl) (by kernel_rfl) (by kernel_rfl) (fun _ _ _ h => h) hS0.out (by kernel_rfl) (fun w' hS' => by (try dsimp only at hS'); go_simp) ?_
        refine T_step (i := 4) rfl (by kernel_rfl) rfl (by kernel_rfl) ?_
        intro K hK
        go_simp
        refine (d_half base p n hn1 hn _ (HC.out.2.2.2.1.below (Below.refl _ _).drew)).mono ?_
        rintro e w4 ⟨⟨v, h, rfl, ⟨hl, hbd, q1, q2⟩, x, rfl, ho⟩, hc4, hk4⟩
        have hkd := (Kept.of_below (lo := p) (hi := p + 1) ((Below.refl wr.heap.size wr).drew)).trans hk4
        have K4 := Lib.hid (And.intro (HC.out.1.kept hkd (.inr (by omega))) (HC.out.2.1.kept hkd (.inr (by omega))))
        have O4 := Lib.hid (HC.out.2.2.1.kept hkd (.inr (by omega)))
        have U4 := Lib.hid (show OwnV 3 wr.heap.size w4.heap.size w4 x (intVals h.1) from ho)
        have G4 := Lib.hid hkd
        have HU4 := Lib.hid hc4
        have HL := Lib.hid hl
        have N5 := Lib.hid (below1 w4 (.cells #[x, .int .i64 h.2] 48))
        clear hc4 hk4 hkd ho hbd q1 q2 hl l0 l1
        refine hK.out _ _ (K4.out.2.two.1.2) ?_
        clear hK K
        refine T_step (i := 5) rfl (by kernel_rfl) rfl (by kernel_rfl) ?_
        intro K hK
        go_simp
        refine hK.out _ _ ((K4.out.2.below N5.out).two.1.2) ?_
        clear hK K
        refine T_step (i := 6) rfl (by kernel_rfl) rfl (by kernel_rfl) ?_
        intro K hK
        refine wp_app_half _ _ (by rfl) (w.heap.size + 2) wr.heap.size V x hs h rfl (O4.out.below N5.out) ((U4.out.below N5.out).mono (Nat.le_refl _) N5.out.size) w4.heap.size rfl (heap_alloc_new w4 _) (by have := HLN.out; omega) HC.out.2.2.2.2.2.1 (Nat.le_trans G4.out.size N5.out.size) ?_
        intro g cap w7 ho7 hk7
        have K7 := Lib.hid (And.intro ((K4.out.1.below N5.out).kept hk7 (.inl (by omega))) ((K4.out.2.below N5.out).kept hk7 (.inl (by omega))))
        have O7 := Lib.hid ho7
        have B7 := Lib.hid ((N5.out.mono (show w.heap.size + 1 ≤ w4.heap.size by have := G4.out.size; have := HC.out.2.2.2.2.2.1; omega)).trans ((hk7.below (Nat.le_refl _) (by have := G4.out.size; have := HC.out.2.2.2.2.2.1; have := N5.out.size; omega)).mono (Nat.le_succ (w.heap.size + 1))))
        clear ho7 hk7
        refine hK.out _ _ (K7.out.2.two.1.2) ?_
        clear hK K
        obtain ⟨⟨m0, m1⟩, mf0, mf1⟩ := K7.out.2.two
        refine T_anytake (i := 7) (v := .pointer (some ⟨w.heap.size + 1, 1, none⟩)) rfl (by kernel_rfl) (by kernel_rfl) (by kernel_rfl) (by kernel_rfl) (fun _ _ _ h => h) (by kernel_rfl) (fun w' => by go_simp) ?_
        refine T_last (i := 8) rfl (by kernel_rfl) (by kernel_rfl) rfl rfl ?_
        go_simp
        go_wp2
        have hB8 := B7.out.setCell (p := ⟨w.heap.size + 1, 1, none⟩) (Nat.le_refl _) (.slice (some ⟨g, 0, none⟩) (hs.length + 1) cap)
        refine ⟨⟨j + 1, _, hs ++ [h], by omega, by go_num, by have := HLN.out; simp only [List.length_append, List.length_singleton]; omega, K7.out.1.other (by simp) _, K7.out.2.set1 _, (O7.out.kept ((Kept.refl (w.heap.size + 1) (w.heap.size + 2) w7).setCell (p := ⟨w.heap.size + 1, 1, none⟩) (Nat.le_refl _) (Nat.lt_succ_self _) _) (.inr (Nat.le_refl _))).mono (Nat.le_refl _) (by simp [World.setCell]), HU4.out.belowB hB8 (by omega), (HC.out.2.2.2.2.1.trans G4.out).andB (hB8.mono (Nat.le_succ _)), Nat.le_trans (Nat.le_trans HC.out.2.2.2.2.2.1 G4.out.size) hB8.size, ?_⟩, by simp [RowKit.intOf]; omega⟩
        intro q hq
        rcases List.mem_append.1 hq with hq | hq
        · exact HC.out.2.2.2.2.2.2 q hq
        · rw [List.mem_singleton] at hq
          rw [hq]; exact HL.out
      · obtain rfl : j = 1 + m := by omega
        obtain ⟨va, vc, rfl, _⟩ := HC.out.2.2.1.hs.shape
        obtain ⟨⟨r0, r1⟩, rf0, rf1⟩ := HC.out.1.two
        go_wp2
        have hbe := ((Below.refl w.heap.size wr).setCell (p := ⟨w.heap.size, 0, none⟩) (Nat.le_refl _) (.int .i64 n)).setCell (p := ⟨w.heap.size, 1, none⟩) (Nat.le_refl _) (.slice va hs.length vc)
        refine bodyPost_ret (v := .agg #[.int .i64 n, .slice va hs.length vc]) ?_ rfl ⟨⟨_, ((n : Int), hs), rfl, ⟨rfl, by have := HLN.out; simp only; omega, by have := HLN.out; simp only; omega, HC.out.2.2.2.2.2.2⟩, _, rfl, ?_⟩, HC.out.2.2.2.1.belowB hbe hp, HC.out.2.2.2.2.1.andB hbe⟩
        · simp [results, Try.results95, go_sem, r0, r1]
        · exact (HC.out.2.2.1.kept (((Kept.refl w.heap.size (w.heap.size + 1) wr).setCell (p := ⟨w.heap.size, 0, none⟩) (Nat.le_refl _) (Nat.lt_succ_self _) _).setCell (p := ⟨w.heap.size, 1, none⟩) (Nat.le_refl _) (Nat.lt_succ_self _) _) (.inr (by omega))).mono (by omega) (by simp [World.setCell])
  | true =>
    go_wp2
    go_loopw [6] (fun i wr => ∃ (j : Nat) (V : Value) (hs : List Hf), j ≤ n ∧ i = .int .i64 j ∧ hs.length = j ∧ DrI base p n w V hs wr) (fun i _ => n - (RowKit.intOf i).toNat)
    case atStart => exact ⟨0, _, _, Nat.zero_le _, rfl, rfl, ST.out⟩
    case round =>
      obtain ⟨j, V, hs, hj, rfl, hlen, hci⟩ := hrel
      have HC := Lib.hid hci
      have HLN := Lib.hid hlen
      clear hci hlen
      by_cases hlt : j < n
      · have i1 : (0 : Int) ≤ (j : Int) := by omega
        have i2 : (j : Int) < (n : Int) := by omega
        go_wp2_with (at_make; go_loud (refine wpList_make_full _ rfl _ _ 30 rfl wr.heap.size 3 i0 _ 1 Try.underlying30 HI.out.1 HI.out.2.1 HI.out.2.2.1 .i64 .i64 _ _ n rfl rfl rfl rfl (by rw [HI.out.2.2.2]; omega) (by unfold maxLen; omega) (Nat.le_refl _) ?_; intro w2 hown hgrow; rw [show (Value.int .i64 0).cells = #[Value.int .i64 0] from rfl, toList_madeCells_one, Nat.mul_one] at hown; have hmine := hown.cellAt j (by omega); rw [List.getElem?_replicate, if_pos hlt] at hmine; have hfree := hown.frozenAt j; have HOW := Lib.hid hown; have HGR := Lib.hid hgrow; clear hown hgrow))
        have hb2 : Below wr.heap.size wr w2 := (Below.refl _ _).grown HGR.out (Nat.le_refl _) (fun _ h => by cases h)
        have hb3 : Below wr.heap.size wr (w2.setCell ⟨wr.heap.size, j, none⟩ (.int .i64 (-1))) := hb2.setCell (Nat.le_refl _) _
        have K3 := Lib.hid (And.intro (HC.out.1.below hb3) (HC.out.2.1.below hb3))
        have O3 := Lib.hid (HC.out.2.2.1.below hb3)
        have hst := (HOW.out.stored j (.int .i64 (-1))).1
        rw [show (List.replicate n (Value.int .i64 0)).set j (.int .i64 (-1)) = intVals ((List.replicate n (0 : Int)).set j (-1)) by simp [intVals, List.map_set]] at hst
        have U3 := Lib.hid (show OwnV 3 wr.heap.size (w2.setCell ⟨wr.heap.size, j, none⟩ (.int .i64 (-1))).heap.size (w2.setCell ⟨wr.heap.size, j, none⟩ (.int .i64 (-1))) (.slice (some ⟨wr.heap.size, 0, none⟩) n n) (intVals ((List.replicate n (0 : Int)).set j (-1))) from by have h := OwnV.of_owns hst; simpa [intVals] using h)
        have C3 := Lib.hid (HC.out.2.2.2.1.below hb3)
        clear hb2 hst hmine hfree
        obtain ⟨⟨l0, l1⟩, -⟩ := K3.out.2.two
        refine T_begin (z := fun k => 7 < k) (S := fun (w' : World) => w'.cell? ⟨w.heap.size + 1, 1, none⟩ = some V) (by kernel_rfl) ?_
        show wpAnyT _ _ _ _ _ _ 10 _ _ _
        have hS0 := Lib.hid (show (fun (w' : World) => w'.cell? ⟨w.heap.size + 1, 1, none⟩ = some V) _ from l1)
        refine T_take (i := 0) (v := (.pointer (some ⟨w.heap.size + 1, 1, none⟩))) rfl (by kernel_rfl) (by kernel_rfl) (by kernel_rfl) (by kernel_rfl) (fun _ _ _ h => h) hS0.out (by kernel_rfl) (fun w' hS' => by (try dsimp only at hS'); go_simp) ?_
        refine T_take (i := 1) (v := V) rfl (by kernel_rfl) (by kernel_rfl) (by kernel_rfl) (by kernel_rfl) (fun _ _ _ h => h) hS0.out (by kernel_rfl) (fun w' hS' => by (try dsimp only at hS'); go_simp) ?_
        refine T_take (i := 2) (v := (.slice (some ⟨wr.heap.size, 0, none⟩) n n)) rfl (by kernel_rfl) (by kernel_rfl) (by kernel_rfl) (by kernel_rfl) (fun _ _ _ h => h) hS0.out (by kernel_rfl) (fun w' hS' => by (try dsimp only at hS'); go_simp) ?_
        refine T_take (i := 3) (v := (.pointer (some ⟨p, 0, none⟩))) rfl (by kernel_rfl) (by kernel_rfl) (by kernel_rfl) (by kernel_rfl) (fun _ _ _ h => h) hS0.out (by kernel_rfl) (fun w' hS' => by (try dsimp only at hS'); go_simp) ?_
        refine T_step (i := 4) rfl (by kernel_rfl) rfl (by kernel_rfl) ?_
        intro K hK
        go_simp
        refine (draw_below base p 3 _ (C3.out.below (Below.refl _ _).drew) (by omega) (by omega)).mono ?_
        rintro e w4 ⟨⟨v4, rfl, y, rfl, y0, y1⟩, hc4, hg4⟩
        have hkd := (Kept.of_below (lo := p) (hi := p + 1) ((Below.refl (w2.setCell ⟨wr.heap.size, j, none⟩ (.int .i64 (-1))).heap.size (w2.setCell ⟨wr.heap.size, j, none⟩ (.int .i64 (-1)))).drew)).trans (Kept.of_grown hg4)
        clear l0 l1
        have K4 := Lib.hid (And.intro (K3.out.1.kept hkd (.inr (by omega))) (K3.out.2.kept hkd (.inr (by omega))))
        have O4 := Lib.hid (O3.out.kept hkd (.inr (by omega)))
        have U4 := Lib.hid (show OwnV 3 wr.heap.size w4.heap.size w4 (.slice (some ⟨wr.heap.size, 0, none⟩) n n) (intVals ((List.replicate n (0 : Int)).set j (-1))) from (U3.out.kept hkd (.inr (by have := HC.out.2.2.2.2.2.1; omega))).mono (Nat.le_refl _) hkd.size)
        have G4 := Lib.hid ((Kept.of_below hb3).trans hkd)
        have HU4 := Lib.hid hc4
        have N5 := Lib.hid (below1 w4 (.cells #[(.slice (some ⟨wr.heap.size, 0, none⟩) n n), .int .i64 y] 48))
        clear hc4 hg4 hkd hb3
        refine hK.out _ _ (K4.out.2.two.1.2) ?_
        clear hK K
        refine T_take (i := 5) (v := .agg #[(.slice (some ⟨wr.heap.size, 0, none⟩) n n), .int .i64 y]) rfl (by kernel_rfl) (by kernel_rfl) (by kernel_rfl) (by kernel_rfl) (fun _ _ _ h => h) (K4.out.2.two.1.2) (by kernel_rfl) (fun w' hS' => by (try dsimp only at hS'); go_simp) ?_
        refine T_step (i := 6) rfl (by kernel_rfl) rfl (by kernel_rfl) ?_
        intro K hK
        go_simp
        refine hK.out _ _ ((K4.out.2.below N5.out).two.1.2) ?_
        clear hK K
        refine T_step (i := 7) rfl (by kernel_rfl) rfl (by kernel_rfl) ?_
        intro K hK
        refine wp_app_half _ _ (by rfl) (w.heap.size + 2) wr.heap.size V (.slice (some ⟨wr.heap.size, 0, none⟩) n n) hs (((List.replicate n (0 : Int)).set j (-1)), y) rfl (O4.out.below N5.out) ((U4.out.below N5.out).mono (Nat.le_refl _) N5.out.size) w4.heap.size rfl (heap_alloc_new w4 _) (by have := HLN.out; omega) HC.out.2.2.2.2.2.1 (Nat.le_trans G4.out.size N5.out.size) ?_
        intro g cap w7 ho7 hk7
        have K7 := Lib.hid (And.intro ((K4.out.1.below N5.out).kept hk7 (.inl (by omega))) ((K4.out.2.below N5.out).kept hk7 (.inl (by omega))))
        have O7 := Lib.hid ho7
        have B7 := Lib.hid ((N5.out.mono (show w.heap.size + 1 ≤ w4.heap.size by have := G4.out.size; have := HC.out.2.2.2.2.2.1; omega)).trans ((hk7.below (Nat.le_refl _) (by have := G4.out.size; have := HC.out.2.2.2.2.2.1; have := N5.out.size; omega)).mono (Nat.le_succ (w.heap.size + 1))))
        clear ho7 hk7
        refine hK.out _ _ (K7.out.2.two.1.2) ?_
        clear hK K
        obtain ⟨⟨m0, m1⟩, mf0, mf1⟩ := K7.out.2.two
        refine T_anytake (i := 8) (v := .pointer (some ⟨w.heap.size + 1, 1, none⟩)) rfl (by kernel_rfl) (by kernel_rfl) (by kernel_rfl) (by kernel_rfl) (fun _ _ _ h => h) (by kernel_rfl) (fun w' => by go_simp) ?_
        refine T_last (i := 9) rfl (by kernel_rfl) (by kernel_rfl) rfl rfl ?_
        go_simp
        go_wp2
        have hB8 := B7.out.setCell (p := ⟨w.heap.size + 1, 1, none⟩) (Nat.le_refl _) (.slice (some ⟨g, 0, none⟩) (hs.length + 1) cap)
        refine ⟨⟨j + 1, _, hs ++ [(((List.replicate n (0 : Int)).set j (-1)), y)], by omega, by go_num, by have := HLN.out; simp only [List.length_append, List.length_singleton]; omega, K7.out.1.other (by simp) _, K7.out.2.set1 _, (O7.out.kept ((Kept.refl (w.heap.size + 1) (w.heap.size + 2) w7).setCell (p := ⟨w.heap.size + 1, 1, none⟩) (Nat.le_refl _) (Nat.lt_succ_self _) _) (.inr (Nat.le_refl _))).mono (Nat.le_refl _) (by simp [World.setCell]), HU4.out.belowB hB8 (by omega), (HC.out.2.2.2.2.1.trans G4.out).andB (hB8.mono (Nat.le_succ _)), Nat.le_trans (Nat.le_trans HC.out.2.2.2.2.2.1 G4.out.size) hB8.size, ?_⟩, by simp [RowKit.intOf]; omega⟩
        intro q hq
        rcases List.mem_append.1 hq with hq | hq
        · exact HC.out.2.2.2.2.2.2 q hq
        · rw [List.mem_singleton] at hq
          rw [hq]; simp
      · obtain rfl : n = j := by omega
        rename World => wq
        go_wp2_with fail
        refine (draw_below base p 3 _ HC.out.2.2.2.1 (by omega) (by omega)).mono ?_
        rintro e w2 ⟨⟨v2, rfl, y, rfl, y0, y1⟩, hc2, hg2⟩
        have hk2 := Kept.of_grown hg2
        obtain ⟨m, rfl⟩ : ∃ m : Nat, y = m := ⟨y.toNat, by omega⟩
        have hm : m ≤ 2 := by omega
        have S2 := Lib.hid (show DrI base p n w V hs w2 from ⟨HC.out.1.kept hk2 (.inr (by omega)), HC.out.2.1.kept hk2 (.inr (by omega)), (HC.out.2.2.1.kept hk2 (.inr (by omega))).mono (Nat.le_refl _) hk2.size, hc2, HC.out.2.2.2.2.1.trans hk2, Nat.le_trans HC.out.2.2.2.2.2.1 hk2.size, HC.out.2.2.2.2.2.2⟩)
        clear hc2 hg2 hk2
        go_wp2
        go_loopw [9] (fun i wr => ∃ (j : Nat) (V : Value) (hs : List Hf), j ≤ 1 + m ∧ i = .int .i64 j ∧ hs.length = j + n ∧ DrI base p n w V hs wr) (fun i _ => 1 + m - (RowKit.intOf i).toNat)
        case atStart => exact ⟨0, _, _, by omega, rfl, by have := HLN.out; omega, S2.out⟩
        case round =>
          obtain ⟨j, V, hs, hj, rfl, hlen, hci⟩ := hrel
          have HC := Lib.hid hci
          have HLN := Lib.hid hlen
          clear hci hlen
          obtain ⟨⟨l0, l1⟩, -⟩ := HC.out.2.1.two
          by_cases hlt : j < 1 + m
          · go_wp2
            refine T_begin (z := fun k => 6 < k) (S := fun (w' : World) => w'.cell? ⟨w.heap.size + 1, 1, none⟩ = some V) (by kernel_rfl) ?_
            show wpAnyT _ _ _ _ _ _ 9 _ _ _
            have hS0 := Lib.hid (show (fun (w' : World) => w'.cell? ⟨w.heap.size + 1, 1, none⟩ = some V) _ from l1)
            refine T_take (i := 0) (v := (.pointer (some ⟨w.heap.size + 1, 1, none⟩))) rfl (by kernel_rfl) (by kernel_rfl) (by kernel_rfl) (by kernel_rfl) (fun _ _ _ h => h) hS0.out (by kernel_rfl) (fun w' hS' => by (try dsimp only at hS'); go_simp) ?_
            refine T_take (i := 1) (v := V) rfl (by kernel_rfl) (by kernel_rfl) (by kernel_rfl) (by kernel_rfl) (fun _ _ _ h => h) hS0.out (by kernel_rfl) (fun w' hS' => by (try dsimp only at hS'); go_simp) ?_
            refine T_take (i := 2) (v := (.pointer (some ⟨p, 0, none⟩))) rfl (by kernel_rfl) (by kernel_rfl) (by kernel_rfl) (by kernel_rfl) (fun _ _ _ h => h) hS0.out (by kernel_rfl) (fun w' hS' => by (try dsimp only at hS'); go_simp) ?_
            refine T_take (i := 3) (v := (.int .i64 n)) rfl (by kernel_rfl) (by kernel_rfl) (by kernel_rfl) (by kernel_rfl) (fun _ _ _ h => h) hS0.out (by kernel_rfl) (fun w' hS' => by (try dsimp only at hS'); go_simp) ?_
            refine T_step (i := 4) rfl (by kernel_rfl) rfl (by kernel_rfl) ?_
            intro K hK
            go_simp
            refine (d_half base p n hn1 hn _ (HC.out.2.2.2.1.below (Below.refl _ _).drew)).mono ?_
            rintro e w4 ⟨⟨v, h, rfl, ⟨hl, hbd, q1, q2⟩, x, rfl, ho⟩, hc4, hk4⟩
            have hkd := (Kept.of_below (lo := p) (hi := p + 1) ((Below.refl wr.heap.size wr).drew)).trans hk4
            have K4 := Lib.hid (And.intro (HC.out.1.kept hkd (.inr (by omega))) (HC.out.2.1.kept hkd (.inr (by omega))))
            have O4 := Lib.hid (HC.out.2.2.1.kept hkd (.inr (by omega)))
            have U4 := Lib.hid (show OwnV 3 wr.heap.size w4.heap.size w4 x (intVals h.1) from ho)
            have G4 := Lib.hid hkd
            have HU4 := Lib.hid hc4
            have HL := Lib.hid hl
            have N5 := Lib.hid (below1 w4 (.cells #[x, .int .i64 h.2] 48))
            clear hc4 hk4 hkd ho hbd q1 q2 hl l0 l1
            refine hK.out _ _ (K4.out.2.two.1.2) ?_
            clear hK K
            refine T_step (i := 5) rfl (by kernel_rfl) rfl (by kernel_rfl) ?_
            intro K hK
            go_simp
            refine hK.out _ _ ((K4.out.2.below N5.out).two.1.2) ?_
            clear hK K
            refine T_step (i := 6) rfl (by kernel_rfl) rfl (by kernel_rfl) ?_
            intro K hK
            refine wp_app_half _ _ (by rfl) (w.heap.size + 2) wr.heap.size V x hs h rfl (O4.out.below N5.out) ((U4.out.below N5.out).mono (Nat.le_refl _) N5.out.size) w4.heap.size rfl (heap_alloc_new w4 _) (by have := HLN.out; omega) HC.out.2.2.2.2.2.1 (Nat.le_trans G4.out.size N5.out.size) ?_
            intro g cap w7 ho7 hk7
            have K7 := Lib.hid (And.intro ((K4.out.1.below N5.out).kept hk7 (.inl (by omega))) ((K4.out.2.below N5.out).kept hk7 (.inl (by omega))))
            have O7 := Lib.hid ho7
            have B7 := Lib.hid ((N5.out.mono (show w.heap.size + 1 ≤ w4.heap.size by have := G4.out.size; have := HC.out.2.2.2.2.2.1; omega)).trans ((hk7.below (Nat.le_refl _) (by have := G4.out.size; have := HC.out.2.2.2.2.2.1; have := N5.out.size; omega)).mono (Nat.le_succ (w.heap.size + 1))))
            clear ho7 hk7
            refine hK.out _ _ (K7.out.2.two.1.2) ?_
            clear hK K
            obtain ⟨⟨m0, m1⟩, mf0, mf1⟩ := K7.out.2.two
            refine T_anytake (i := 7) (v := .pointer (some ⟨w.heap.size + 1, 1, none⟩)) rfl (by kernel_rfl) (by kernel_rfl) (by kernel_rfl) (by kernel_rfl) (fun _ _ _ h => h) (by kernel_rfl) (fun w' => by go_simp) ?_
            refine T_last (i := 8) rfl (by kernel_rfl) (by kernel_rfl) rfl rfl ?_
            go_simp
            go_wp2
            have hB8 := B7.out.setCell (p := ⟨w.heap.size + 1, 1, none⟩) (Nat.le_refl _) (.slice (some ⟨g, 0, none⟩) (hs.length + 1) cap)
            refine ⟨⟨j + 1, _, hs ++ [h], by omega, by go_num, by have := HLN.out; simp only [List.length_append, List.length_singleton]; omega, K7.out.1.other (by simp) _, K7.out.2.set1 _, (O7.out.kept ((Kept.refl (w.heap.size + 1) (w.heap.size + 2) w7).setCell (p := ⟨w.heap.size + 1, 1, none⟩) (Nat.le_refl _) (Nat.lt_succ_self _) _) (.inr (Nat.le_refl _))).mono (Nat.le_refl _) (by simp [World.setCell]), HU4.out.belowB hB8 (by omega), (HC.out.2.2.2.2.1.trans G4.out).andB (hB8.mono (Nat.le_succ _)), Nat.le_trans (Nat.le_trans HC.out.2.2.2.2.2.1 G4.out.size) hB8.size, ?_⟩, by simp [RowKit.intOf]; omega⟩
            intro q hq
            rcases List.mem_append.1 hq with hq | hq
            · exact HC.out.2.2.2.2.2.2 q hq
            · rw [List.mem_singleton] at hq
              rw [hq]; exact HL.out
          · obtain rfl : j = 1 + m := by omega
            obtain ⟨va, vc, rfl, _⟩ := HC.out.2.2.1.hs.shape
            obtain ⟨⟨r0, r1⟩, rf0, rf1⟩ := HC.out.1.two
            go_wp2
            have hbe := ((Below.refl w.heap.size wr).setCell (p := ⟨w.heap.size, 0, none⟩) (Nat.le_refl _) (.int .i64 n)).setCell (p := ⟨w.heap.size, 1, none⟩) (Nat.le_refl _) (.slice va hs.length vc)
            refine bodyPost_ret (v := .agg #[.int .i64 n, .slice va hs.length vc]) ?_ rfl ⟨⟨_, ((n : Int), hs), rfl, ⟨rfl, by have := HLN.out; simp only; omega, by have := HLN.out; simp only; omega, HC.out.2.2.2.2.2.2⟩, _, rfl, ?_⟩, HC.out.2.2.2.1.belowB hbe hp, HC.out.2.2.2.2.1.andB hbe⟩
            · simp [results, Try.results95, go_sem, r0, r1]
            · exact (HC.out.2.2.1.kept (((Kept.refl w.heap.size (w.heap.size + 1) wr).setCell (p := ⟨w.heap.size, 0, none⟩) (Nat.le_refl _) (Nat.lt_succ_self _) _).setCell (p := ⟨w.heap.size, 1, none⟩) (Nat.le_refl _) (Nat.lt_succ_self _) _) (.inr (by omega))).mono (by omega) (by simp [World.setCell])
end Go.Proofs.Ytmogncpkdkdodaa
