/- The drawing of a unimodular matrix. -/
import Derived.Test.YtjijgagdaolkcaaGreatDrawMat
import Derived.Test.YtjijgagdaolkcaaGreatMay
import Derived.Deep.OwnRows
namespace Go.Proofs.YtjijgagdaolkcaaGreat
open Go Go.RowKit Go.Lib

theorem s_bit' (b : Bool) (w : World) : Calls Tryz.prog 70 #[.bool b] w fun e w' => e = .returned (.int .i64 (if b = true then 1 else 0)) ∧ w = w' := by
  cases b with
  | true =>
    go_enter Tryz.func70, Tryz.ntmps70
    go_wp2
    go_ret
    exact ⟨rfl, rfl⟩
  | false =>
    go_enter Tryz.func70, Tryz.ntmps70
    go_wp2
    go_ret
    exact ⟨rfl, rfl⟩

/-- A row of zeros that was made just now. -/
theorem own_made {w : World} {B n : Nat} (hB : w.heap.size = B) (hn : n ≤ 1048576) : OwnV 3 B (B + 1) (w.alloc (.cells (madeCells #[.int .i64 0] n) 3)) (.slice (some ⟨B, 0, none⟩) n n) (intVals (List.replicate n 0)) := by
  subst hB
  have hs : (madeCells #[.int .i64 0] n).size = n := by simp [madeCells]
  have hl : (madeCells #[.int .i64 0] n).toList = List.replicate n (.int .i64 0) := by
    apply List.ext_getElem?
    intro i
    by_cases hi : i < n
    · simp [madeCells, hi, Nat.mod_one]
    · simp [madeCells, hi]
  refine .inr ⟨w.heap.size, n, _, by simp [intVals_len], Nat.le_refl _, Nat.lt_succ_self _, heap_alloc_new w _, by simp [intVals_len], by unfold maxLen; omega, hs, ?_⟩
  rw [hl]
  simp [intVals]

/-- A row in a block that was made since is put into place j. -/
theorem OwR.put_fresh {T e : TypeId} {lo m hi : Nat} {w : World} {zss : List (List Int)} {b n c : Nat} (h : OwR T e lo m w (.slice (some ⟨b, 0, none⟩) n c) zss) (hm : m ≤ hi) (hlm : lo ≤ m) (j : Nat) (hj : j < zss.length) {u : Value} {ys : List Int}
    (hu : OwnV e m hi w u (intVals ys)) : OwR T e lo hi (w.setCell ⟨b, j, none⟩ u) (.slice (some ⟨b, 0, none⟩) n c) (zss.set j ys) := by
  obtain ⟨vs, h1, h2, h3, h4, h5⟩ := h
  have hjv : j < vs.length := by omega
  obtain ⟨b', cap, e1, hb1, hb2⟩ := h2.form (by omega)
  simp only [Value.slice.injEq, Option.some.injEq, Addr.mk.injEq] at e1
  obtain ⟨⟨rfl, _, _⟩, rfl, rfl⟩ := e1
  have ho := h2.owns
  have hst := (ho.stored j u).1
  have hkept : Kept b (b + 1) w (w.setCell ⟨b, j, none⟩ u) := (Kept.refl b (b + 1) w).setCell (p := ⟨b, j, none⟩) (Nat.le_refl _) (Nat.lt_succ_self _) u
  have low : ∀ (i : Nat) x q, vs[i]? = some x → x.ownBlock = some q → q < m := fun i x q hx hq => by
    have hi := lt_of_get hx
    exact ((h3 i x _ hx (List.getElem?_eq_getElem (by omega))).place hq).2.1
  have high : ∀ q, u.ownBlock = some q → m ≤ q := fun q hq => (hu.place hq).1
  have hown2 : OwnV T lo hi (w.setCell ⟨b, j, none⟩ u) (.slice (some ⟨b, 0, none⟩) vs.length c) (vs.set j u) := by
    have h6 := OwnV.of_owns hst
    rcases h6 with ⟨h7, _⟩ | ⟨g, cap, cur, e2, h8, _, h9⟩
    · have h8 := congrArg List.length h7
      rw [List.length_set, List.length_nil] at h8
      omega
    · simp only [Value.slice.injEq, Option.some.injEq, Addr.mk.injEq] at e2
      obtain ⟨⟨rfl, _, _⟩, e3, rfl⟩ := e2
      exact .inr ⟨b, c, cur, by rw [List.length_set], hb1, by omega, h9⟩
  refine ⟨vs.set j u, by rw [List.length_set, List.length_set, h1], hown2, ?_, ?_, ?_⟩
  · intro i x zs hx hz
    rw [get_set _ _ _ _ hjv] at hx
    rw [get_set _ _ _ _ hj] at hz
    split at hx
    · rename_i hij
      rw [if_pos hij] at hz
      obtain rfl := Option.some.inj hx
      obtain rfl := Option.some.inj hz
      exact (hu.far hkept (fun hub => by have := high b hub; omega)).mono hlm (Nat.le_refl _)
    · rename_i hij
      rw [if_neg hij] at hz
      exact ((h3 i x zs hx hz).far hkept (fun hub => h5 i x b hx hub rfl)).mono (Nat.le_refl _) hm
  · intro i k x y q hik hx hy hxq
    rw [get_set _ _ _ _ hjv] at hx hy
    split at hx
    · rename_i hij
      rw [if_neg (by omega)] at hy
      obtain rfl := Option.some.inj hx
      intro hyq
      have := high q hxq
      have := low k y q hy hyq
      omega
    · split at hy
      · obtain rfl := Option.some.inj hy
        intro hyq
        have := high q hyq
        have := low i x q hx hxq
        omega
      · exact h4 i k x y q hik hx hy hxq
  · intro i x q hx hxq
    rw [get_set _ _ _ _ hjv] at hx
    split at hx
    · obtain rfl := Option.some.inj hx
      intro hb
      have hbq : b = q := by simpa [Value.ownBlock] using hb
      have := high q hxq
      omega
    · exact h5 i x q hx hxq
theorem bd_le {v : List Int} {n m : Int} (h : Bd v n) (hn : n ≤ m) : Bd v m := fun k hk => by
  have := h k hk
  omega
theorem bd_scale {y : List Int} {t z : Int} (hy : Bd y t) (h1 : -2 ≤ z) (h2 : z ≤ 2) : Bd (scaleL y z) (t * 2) := by
  intro k hk
  have hk3 : k < y.length := by simp [scaleL] at hk; omega
  have e : (scaleL y z)[k] = y[k] * z := by simp [scaleL]
  rw [e]
  exact mul_bd (hy k hk3).1 (hy k hk3).2 h1 h2
theorem bd_addscale {x y : List Int} {t z : Int} (hl : x.length = y.length) (hx : Bd x t) (hy : Bd y t) (h1 : -2 ≤ z) (h2 : z ≤ 2) : Bd (addL x (scaleL y z)) (t + t * 2) := by
  intro k hk
  have hk2 : k < x.length := by simp [addL, scaleL] at hk; omega
  have hk3 : k < y.length := by omega
  have e : (addL x (scaleL y z))[k] = x[k] + y[k] * z := by simp [addL, scaleL]
  rw [e]
  have a := hx k hk2
  have b := mul_bd (hy k hk3).1 (hy k hk3).2 h1 h2
  omega

/-- How great the numbers are after j steps. -/
def tri : Nat → Int
  | 0 => 1
  | 1 => 3
  | 2 => 9
  | _ => 27
theorem tri_le (j : Nat) : tri j ≤ 27 := by
  match j with
  | 0 => decide
  | 1 => decide
  | 2 => decide
  | n + 3 => exact Int.le_refl _
theorem tri_pos (j : Nat) : 1 ≤ tri j := by
  match j with
  | 0 => decide
  | 1 => decide
  | 2 => decide
  | n + 3 => show (1 : Int) ≤ 27; decide
theorem tri_succ {j : Nat} (h : j < 3) : tri j + tri j * 2 = tri (j + 1) := by
  match j, h with
  | 0, _ => decide
  | 1, _ => decide
  | 2, _ => decide

set_option maxRecDepth 100000 in
set_option maxHeartbeats 3200000 in
theorem d_unit (base p n : Nat) (hn1 : 1 ≤ n) (hn : n ≤ 3) (w : World) (hc : CurAt base w p) :
    Calls Tryz.prog 55 #[.pointer (some ⟨p, 0, none⟩), .int .i64 n] w (DrewM base p w (fun zss => zss.length = n ∧ RowsB zss n 27)) := by
  have hp := hc.lt
  have HC := Lib.hid hc
  obtain ⟨i0, hi, hz0, hz1, hz2⟩ := info_parts info_int'
  have HI := Lib.hid (And.intro hi (And.intro hz0 (And.intro hz1 hz2)))
  clear hc hi hz0 hz1 hz2
  go_enter Tryz.func55, Tryz.ntmps55
  go_wp2
  go_loopw [5, 6] (fun o i wr => ∃ (k : Nat) (zss : List (List Int)), k ≤ n ∧ i = .int .i64 k ∧ zss.length = k ∧ RowsB zss n 1 ∧ OwR 27 3 w.heap.size wr.heap.size wr o zss ∧ CurAt base wr p ∧ Kept p (p + 1) w wr) (fun _ i _ => n - (RowKit.intOf i).toNat)
  case atStart => exact ⟨0, [], Nat.zero_le _, rfl, rfl, (fun zs h => by cases h), owr_empty (Nat.le_refl _), HC.out.below ((Below.refl _ _).alloc (Nat.le_refl _) _), Kept.of_below ((Below.refl _ _).alloc (Nat.le_refl _) _)⟩
  case round =>
    obtain ⟨k, zss, hk, rfl, hlen, hbd, how, hcur, hkp⟩ := hrel
    have HL := Lib.hid hlen
    have HD := Lib.hid hbd
    have HW := Lib.hid how
    have HU := Lib.hid hcur
    have HK := Lib.hid hkp
    clear hlen hbd how hcur hkp
    by_cases hlt : k < n
    · have hmk := run_make_row' (P := Tryz.prog) 27 3 (.int .i64 0) 8 Tryz.underlying27 info_int' rfl .i64 .i64 n (by omega) (by omega)
      have MK := Lib.hid (own_made (w := wr) (n := n) rfl (by omega))
      have B1 := Lib.hid (below1 wr (.cells (madeCells #[.int .i64 0] n) 3))
      go_wp2_with fail
      refine (d_once base p 4 _ (HU.out.below B1.out) (by omega) (by omega)).mono ?_
      rintro e w1 ⟨⟨coin, rfl⟩, hc1, hk1⟩
      have KB := Lib.hid (B1.out.mono HK.out.size)
      have HU1 := Lib.hid hc1
      have MK1 := Lib.hid (MK.out.kept hk1 (.inr (by have := HK.out.size; omega)))
      have HW1 := Lib.hid ((HW.out.below B1.out).kept hk1 (.inr (by omega)))
      have HK1 := Lib.hid ((HK.out.andB KB.out).trans hk1)
      have Z1 := Lib.hid (show wr.heap.size + 1 ≤ w1.heap.size by have := hk1.size; rw [World.size_alloc] at this; exact this)
      have S0 := Lib.hid HK.out.size
      clear hc1 hk1 hmk
      have ho : w1.ownsRow wr.heap.size 3 1 (.slice (some ⟨wr.heap.size, 0, none⟩) n n) n (intVals (List.replicate n 0)) := by
        have h := MK1.out.owns
        rwa [intVals_len, List.length_replicate] at h
      have hcell : w1.cell? ⟨wr.heap.size, k, none⟩ = some (.int .i64 0) := by rw [ho.cellAt k (by omega), intVals, List.getElem?_map, List.getElem?_replicate, if_pos hlt]; rfl
      have hfrz := ho.frozenAt k
      have HO := Lib.hid ho
      clear ho
      go_wp2_with fail
      refine (s_bit' coin _).mono ?_
      rintro e w2 ⟨rfl, rfl⟩
      obtain ⟨y, hy, y0, y1⟩ : ∃ y : Int, (if coin = true then (1 : Int) else 0) = y ∧ 0 ≤ y ∧ y ≤ 1 := by
        cases coin
        · exact ⟨0, rfl, by omega, by omega⟩
        · exact ⟨1, rfl, by omega, by omega⟩
      rw [hy]
      clear hy
      have hks := (Kept.refl wr.heap.size (wr.heap.size + 1) w1).setCell (p := ⟨wr.heap.size, k, none⟩) (Nat.le_refl _) (Nat.lt_succ_self _) (.int .i64 (1 - 2 * y))
      have hsz : (w1.setCell ⟨wr.heap.size, k, none⟩ (.int .i64 (1 - 2 * y))).heap.size = w1.heap.size := by simp [World.setCell]
      have HR2 := Lib.hid (show OwnV 3 wr.heap.size (w1.setCell ⟨wr.heap.size, k, none⟩ (.int .i64 (1 - 2 * y))).heap.size (w1.setCell ⟨wr.heap.size, k, none⟩ (.int .i64 (1 - 2 * y))) (.slice (some ⟨wr.heap.size, 0, none⟩) n n) (intVals ((List.replicate n 0).set k (1 - 2 * y))) by
        rw [intVals_set]; exact OwnV.of_owns (HO.out.stored k _).1)
      have HW2 := Lib.hid (HW1.out.kept hks (.inl (Nat.le_refl _)))
      have HB2 := Lib.hid ((Below.refl w.heap.size w1).setCell (p := ⟨wr.heap.size, k, none⟩) S0.out (.int .i64 (1 - 2 * y)))
      have HS2 := Lib.hid hsz
      have HZ2 := Lib.hid (show wr.heap.size ≤ (w1.setCell ⟨wr.heap.size, k, none⟩ (.int .i64 (1 - 2 * y))).heap.size by rw [hsz]; have := Z1.out; omega)
      clear hks hsz
      go_wp2_with (at_builtin; go_loud (refine list_app_row2 rfl _ _ rfl w.heap.size wr.heap.size _ _ zss ((List.replicate n 0).set k (1 - 2 * y)) rfl (HW2.out.below ((Below.refl _ _).alloc (Nat.le_refl _) _)) ((HR2.out.below (below1 _ _)).mono (Nat.le_refl _) (below1 _ _).size) w1.heap.size rfl (by have h := heap_alloc_new (w1.setCell ⟨wr.heap.size, k, none⟩ (.int .i64 (1 - 2 * y))) (.cells #[.slice (some ⟨wr.heap.size, 0, none⟩) n n] 27); rw [HS2.out] at h; exact h) (by have := HL.out; omega) S0.out (Nat.le_trans HZ2.out (below1 _ _).size) ?_; intro g cap w3 hown3 hbel3 _ _; have HO3 := Lib.hid hown3; have HB3 := Lib.hid hbel3; clear hown3 hbel3))
      have hb4 := ((HB2.out.alloc (by have := HS2.out; have := Z1.out; have := S0.out; omega) _).trans HB3.out)
      refine ⟨⟨k + 1, _, by omega, by go_num, ?_, HD.out.snoc (by simp) ?_, HO3.out, HU1.out.belowB hb4 hp, HK1.out.andB hb4⟩, by simp [RowKit.intOf]; omega⟩
      · rw [List.length_append, HL.out]; rfl
      · intro j hj
        rw [List.getElem_set]
        split
        · omega
        · rw [List.getElem_replicate]; omega
    · obtain rfl : n = k := by omega
      obtain ⟨a0, c0, rfl, -⟩ := HW.out.rw.shape
      obtain ⟨g, u, rfl, -⟩ := HW.out.at 0 (by have := HL.out; omega) rfl
      rw [HL.out]
      have HW' := HW.out
      rw [HL.out] at HW'
      have HWn := Lib.hid HW'
      clear HW HW'
      go_wp2_with fail
      refine (draw_below base p 4 _ HU.out (by omega) (by omega)).mono ?_
      rintro e w1 ⟨⟨v, rfl, x, rfl, h0, h1⟩, hc1, hg1⟩
      obtain ⟨m, rfl⟩ : ∃ m : Nat, x = m := ⟨x.toNat, by omega⟩
      have hm : m ≤ 3 := by omega
      have HU1 := Lib.hid hc1
      have HK1 := Lib.hid (HK.out.trans (Kept.of_grown hg1))
      have HW1 := Lib.hid ((HWn.out.kept (Kept.of_grown hg1) (.inr (by omega))).mono (Nat.le_refl _) hg1.size)
      clear hc1 hg1 h0 h1
      go_wp2
      go_loopw [9, 10, 11] (fun i _ _ wr => ∃ (j : Nat) (zs : List (List Int)), j ≤ m ∧ i = .int .i64 j ∧ zs.length = n ∧ RowsB zs n (tri j) ∧ OwR 27 3 w.heap.size wr.heap.size wr (.slice (some ⟨g, 0, none⟩) n c0) zs ∧ CurAt base wr p ∧ Kept p (p + 1) w wr) (fun i _ _ _ => m - (RowKit.intOf i).toNat)
      case atStart => exact ⟨0, zss, Nat.zero_le _, rfl, HL.out, HD.out, HW1.out, HU1.out, HK1.out⟩
      case round =>
        rename World => wj
        obtain ⟨j, zs, hj, rfl, hlz, hbz, howz, hcz, hkz⟩ := hrel
        have LZ := Lib.hid hlz
        have DZ := Lib.hid hbz
        have WZ := Lib.hid howz
        have UZ := Lib.hid hcz
        have KZ := Lib.hid hkz
        clear hlz hbz howz hcz hkz
        by_cases hjm : j < m
        · by_cases hn2 : 1 < n
          · go_wp2_with fail
            refine (draw_below base p n _ UZ.out (by omega) (by omega)).mono ?_
            rintro e w2 ⟨⟨v, rfl, x, rfl, h0, h1⟩, hc2, hg2⟩
            obtain ⟨a, rfl⟩ : ∃ a : Nat, x = a := ⟨x.toNat, by omega⟩
            have ha : a < n := by omega
            have U2 := Lib.hid hc2
            have G2 := Lib.hid (Kept.of_grown hg2)
            clear hc2 hg2 h0 h1
            go_wp2_with fail
            refine (draw_below base p (n - 1) _ U2.out (by omega) (by omega)).mono ?_
            rintro e w3 ⟨⟨v, rfl, x, rfl, h0, h1⟩, hc3, hg3⟩
            obtain ⟨y, rfl⟩ : ∃ y : Nat, x = y := ⟨x.toNat, by omega⟩
            have hy : y < n := by omega
            have U3 := Lib.hid hc3
            have G3 := Lib.hid (G2.out.trans (Kept.of_grown hg3))
            clear hc3 hg3 h0 h1
            obtain ⟨b, hb, hbn⟩ : ∃ b : Nat, Int.tmod ((a : Int) + 1 + y) n = b ∧ b < n := by
              refine ⟨(a + 1 + y) % n, ?_, Nat.mod_lt _ (by omega)⟩
              rw [Int.tmod_eq_emod_of_nonneg (by omega)]
              exact_mod_cast rfl
            go_wp2_with fail
            have Bd3 := Lib.hid ((Below.refl w3.heap.size w3).drew)
            have W3 := Lib.hid (((WZ.out.kept G3.out (.inr (by omega))).mono (Nat.le_refl _) G3.out.size).below Bd3.out)
            have U3d := Lib.hid (U3.out.below Bd3.out)
            have hsd : w3.drew.heap.size = w3.heap.size := rfl
            have SZ := Lib.hid (show w.heap.size ≤ w3.heap.size from Nat.le_trans KZ.out.size G3.out.size)
            obtain ⟨ga, ua, ea, hga, hga2, hga3, ca, fa, oa, -, -⟩ := W3.out.at a (by have := LZ.out; omega) rfl
            obtain ⟨gb, ub, eb, -, -, -, cb, -, ob, -, -⟩ := W3.out.at b (by have := LZ.out; omega) rfl
            simp only [Option.some.injEq, Addr.mk.injEq, and_true] at ea eb
            obtain rfl := ea
            obtain rfl := eb
            have OA := Lib.hid oa
            have OB := Lib.hid ob
            have FA := Lib.hid fa
            clear oa ob fa
            refine T_begin (z := fun k => 14 < k) (S := fun (w' : World) => w'.cell? ⟨g, a, none⟩ = some ua ∧ w'.cell? ⟨g, b, none⟩ = some ub) (by kernel_rfl) ?_
            show wpAnyT _ _ _ _ _ _ 17 _ _ _
            have hS0 := Lib.hid (show (fun (w' : World) => w'.cell? ⟨g, a, none⟩ = some ua ∧ w'.cell? ⟨g, b, none⟩ = some ub) _ from ⟨ca, cb⟩)
            clear ca cb
            refine T_take (i := 0) (v := (.slice (some ⟨g, 0, none⟩) n c0)) rfl (by kernel_rfl) (by kernel_rfl) (by kernel_rfl) (by kernel_rfl) (fun _ _ _ h => h) hS0.out (by kernel_rfl) (fun w' hS' => by (try dsimp only at hS'); go_simp) ?_
            refine T_take (i := 1) (v := (.int .i64 a)) rfl (by kernel_rfl) (by kernel_rfl) (by kernel_rfl) (by kernel_rfl) (fun _ _ _ h => h) hS0.out (by kernel_rfl) (fun w' hS' => by (try dsimp only at hS'); go_simp) ?_
            refine T_take (i := 2) (v := (.slice (some ⟨g, 0, none⟩) n c0)) rfl (by kernel_rfl) (by kernel_rfl) (by kernel_rfl) (by kernel_rfl) (fun _ _ _ h => h) hS0.out (by kernel_rfl) (fun w' hS' => by (try dsimp only at hS'); go_simp) ?_
            refine T_take (i := 3) (v := (.int .i64 a)) rfl (by kernel_rfl) (by kernel_rfl) (by kernel_rfl) (by kernel_rfl) (fun _ _ _ h => h) hS0.out (by kernel_rfl) (fun w' hS' => by (try dsimp only at hS'); go_simp) ?_
            refine T_take (i := 4) (v := (.pointer (some ⟨g, a, none⟩))) rfl (by kernel_rfl) (by kernel_rfl) (by kernel_rfl) (by kernel_rfl) (fun _ _ _ h => h) hS0.out (by kernel_rfl) (fun w' hS' => by (try dsimp only at hS'); go_simp) ?_
            refine T_take (i := 5) (v := ua) rfl (by kernel_rfl) (by kernel_rfl) (by kernel_rfl) (by kernel_rfl) (fun _ _ _ h => h) hS0.out (by kernel_rfl) (fun w' hS' => by obtain ⟨hS1, hS2⟩ := hS'; go_simp) ?_
            refine T_take (i := 6) (v := (.slice (some ⟨g, 0, none⟩) n c0)) rfl (by kernel_rfl) (by kernel_rfl) (by kernel_rfl) (by kernel_rfl) (fun _ _ _ h => h) hS0.out (by kernel_rfl) (fun w' hS' => by (try dsimp only at hS'); go_simp) ?_
            refine T_take (i := 7) (v := (.int .i64 b)) rfl (by kernel_rfl) (by kernel_rfl) (by kernel_rfl) (by kernel_rfl) (fun _ _ _ h => h) hS0.out (by kernel_rfl) (fun w' hS' => by (try dsimp only at hS'); go_simp) ?_
            refine T_take (i := 8) (v := (.pointer (some ⟨g, b, none⟩))) rfl (by kernel_rfl) (by kernel_rfl) (by kernel_rfl) (by kernel_rfl) (fun _ _ _ h => h) hS0.out (by kernel_rfl) (fun w' hS' => by (try dsimp only at hS'); go_simp) ?_
            refine T_take (i := 9) (v := ub) rfl (by kernel_rfl) (by kernel_rfl) (by kernel_rfl) (by kernel_rfl) (fun _ _ _ h => h) hS0.out (by kernel_rfl) (fun w' hS' => by obtain ⟨hS1, hS2⟩ := hS'; go_simp) ?_
            refine T_take (i := 10) (v := (.pointer (some ⟨p, 0, none⟩))) rfl (by kernel_rfl) (by kernel_rfl) (by kernel_rfl) (by kernel_rfl) (fun _ _ _ h => h) hS0.out (by kernel_rfl) (fun w' hS' => by (try dsimp only at hS'); go_simp) ?_
            refine T_step (i := 11) rfl (by kernel_rfl) rfl (by kernel_rfl) ?_
            intro K hK
            go_simp
            refine (draw_below base p 5 _ U3d.out (by omega) (by omega)).mono ?_
            rintro e w4 ⟨⟨v, rfl, x, rfl, h0, h1⟩, hc4, hg4⟩
            have k4 := Kept.of_grown hg4
            have K4 := Lib.hid k4
            have U4 := Lib.hid hc4
            have hz4 : w3.heap.size ≤ w4.heap.size := k4.size
            have OA4 := Lib.hid ((OA.out.kept k4 (.inr (by omega))))
            have OB4 := Lib.hid ((OB.out.kept k4 (.inr (by omega))))
            have W4 := Lib.hid (W3.out.kept k4 (.inr (by omega)))
            have S4 := Lib.hid (show w4.cell? ⟨g, a, none⟩ = some ua ∧ w4.cell? ⟨g, b, none⟩ = some ub by
              rw [hg4.cell_far ⟨g, a, none⟩ (by show g < w3.heap.size; omega) (by intro e; injection e with e; simp only at e; omega), hg4.cell_far ⟨g, b, none⟩ (by show g < w3.heap.size; omega) (by intro e; injection e with e; simp only at e; omega)]
              exact hS0.out)
            obtain ⟨z, rfl⟩ : ∃ z : Int, x = z + 2 := ⟨x - 2, by omega⟩
            have hz1 : -2 ≤ z := by omega
            have hz2 : z ≤ 2 := by omega
            clear hc4 hg4 k4 h0 h1
            refine hK.out _ _ S4.out ?_
            clear hK K
            refine T_step (i := 12) rfl (by kernel_rfl) rfl (by kernel_rfl) ?_
            intro K hK
            go_simp
            refine hK.out _ _ S4.out ?_
            clear hK K
            refine T_step (i := 13) rfl (by kernel_rfl) rfl (by kernel_rfl) ?_
            intro K hK
            go_simp
            rw [show IntKind.i64.wrap z = z from IntWalk.i64_in _ (by omega)]
            have haz : a < zs.length := by have := LZ.out; omega
            have hbz : b < zs.length := by have := LZ.out; omega
            have LA := Lib.hid (DZ.out _ (List.getElem_mem haz))
            have LB := Lib.hid (DZ.out _ (List.getElem_mem hbz))
            have ht := tri_le j
            have ht1 := tri_pos j
            refine (s_scale zs[b] (by have := LB.out.1; omega) (tri j) 2 z LB.out.2 hz1 hz2 (by omega) ub _ OB4.out.sl).mono ?_
            rintro e w5 ⟨⟨v5, rfl, o5⟩, hb5⟩
            have O5 := Lib.hid o5
            have HB5 := Lib.hid hb5
            have hg4s : g < w4.heap.size := by omega
            have S5 := Lib.hid (show w5.cell? ⟨g, a, none⟩ = some ua ∧ w5.cell? ⟨g, b, none⟩ = some ub by
              rw [hb5.cell (p := ⟨g, a, none⟩) hg4s, hb5.cell (p := ⟨g, b, none⟩) hg4s]
              exact S4.out)
            clear o5 hb5
            refine hK.out _ _ S5.out ?_
            clear hK K
            refine T_step (i := 14) rfl (by kernel_rfl) rfl (by kernel_rfl) ?_
            intro K hK
            go_simp
            have hls : zs[a].length = (scaleL zs[b] z).length := by rw [LA.out.1, scaleL, List.length_map, LB.out.1]
            refine (s_add zs[a] (scaleL zs[b] z) hls (by have := LA.out.1; omega) 54 (by omega) (bd_le LA.out.2 (by omega)) (bd_le (bd_scale LB.out.2 hz1 hz2) (by omega)) ua v5 _ (OA4.out.below HB5.out).sl O5.out.sl).mono ?_
            rintro e w6 ⟨⟨v6, rfl, o6⟩, hb6⟩
            obtain ⟨x6, n6, rfl, -⟩ := o6.sl.shape
            have O6 := Lib.hid o6
            have HB6 := Lib.hid ((HB5.out.mono (Nat.le_refl _)).trans (hb6.mono HB5.out.size))
            have S6 := Lib.hid (show w6.cell? ⟨g, a, none⟩ = some ua ∧ w6.cell? ⟨g, b, none⟩ = some ub by
              rw [hb6.cell (p := ⟨g, a, none⟩) (Nat.lt_of_lt_of_le hg4s HB5.out.size), hb6.cell (p := ⟨g, b, none⟩) (Nat.lt_of_lt_of_le hg4s HB5.out.size)]
              exact S5.out)
            clear o6 hb6 hls
            refine hK.out _ _ S6.out ?_
            clear hK K
            obtain ⟨m0, -⟩ := S6.out
            have mf : w6.frozen? ⟨g, a, none⟩ = false := by
              obtain ⟨gq, uq, eq, -, -, -, -, fq, -⟩ := (W4.out.below HB6.out).at a haz rfl
              simp only [Option.some.injEq, Addr.mk.injEq, and_true] at eq
              obtain rfl := eq
              exact fq
            refine T_anytake (i := 15) (v := .pointer (some ⟨g, a, none⟩)) rfl (by kernel_rfl) (by kernel_rfl) (by kernel_rfl) (by kernel_rfl) (fun _ _ _ h => h) (by kernel_rfl) (fun w' => by go_simp) ?_
            refine T_last (i := 16) rfl (by kernel_rfl) (by kernel_rfl) rfl rfl ?_
            go_simp
            go_wp2
            have hs6 := HB6.out.size
            have W6 := (W4.out.below HB6.out).put_fresh (hi := w6.heap.size) (by omega) SZ.out a haz (O6.out.mono (by have := HB5.out.size; omega) (Nat.le_refl _))
            have b4 : Below w.heap.size w4 (w6.setCell ⟨g, a, none⟩ (.slice x6 (intVals (addL zs[a] (scaleL zs[b] z))).length n6)) := (HB6.out.mono (by omega)).setCell (p := ⟨g, a, none⟩) hga _
            refine ⟨⟨j + 1, zs.set a (addL zs[a] (scaleL zs[b] z)), by omega, by go_num, by rw [List.length_set]; exact LZ.out, ?_, ?_, U4.out.belowB b4 hp, ((((KZ.out.trans G3.out).andB (Bd3.out.mono SZ.out)).trans K4.out).andB b4)⟩, by simp [RowKit.intOf]; omega⟩
            · intro q hq
              rcases List.mem_or_eq_of_mem_set hq with hq | rfl
              · exact ⟨(DZ.out q hq).1, bd_le (DZ.out q hq).2 (by rw [← tri_succ (by omega)]; omega)⟩
              · refine ⟨by simp [addL, scaleL, LA.out.1, LB.out.1], ?_⟩
                rw [← tri_succ (show j < 3 by omega)]
                exact bd_addscale (by rw [LA.out.1, LB.out.1]) LA.out.2 LB.out.2 hz1 hz2
            · exact W6.mono (Nat.le_refl _) (by simp [World.setCell])
          · go_wp2
            go_ret
            exact ⟨⟨_, zs, rfl, ⟨LZ.out, fun q hq => ⟨(DZ.out q hq).1, bd_le (DZ.out q hq).2 (tri_le j)⟩⟩, WZ.out⟩, UZ.out, KZ.out⟩
        · go_wp2
          go_ret
          exact ⟨⟨_, zs, rfl, ⟨LZ.out, fun q hq => ⟨(DZ.out q hq).1, bd_le (DZ.out q hq).2 (tri_le j)⟩⟩, WZ.out⟩, UZ.out, KZ.out⟩
end Go.Proofs.YtjijgagdaolkcaaGreat
/- The drawing of the laws' matrices. -/
namespace Go.Proofs.YtjijgagdaolkcaaGreat
open Go Go.RowKit Go.Lib

/-- At most four rows of at most three numbers. -/
def FewM (zss : List (List Int)) : Prop := zss.length ≤ 4 ∧ ∀ zs, zs ∈ zss → zs.length ≤ 3 ∧ Bd zs 101
theorem few_rows {zss : List (List Int)} {n : Nat} {s : Int} (h : zss.length = n) (hn : n ≤ 3) (hr : RowsB zss n s) (hs : s ≤ 101) : FewM zss := by
  refine ⟨by omega, fun q hq => ⟨?_, bd_le (hr q hq).2 hs⟩⟩
  have := (hr q hq).1
  omega
/-- One number in a block that was made just now. -/
theorem own_single (w : World) (x : Int) {B : Nat} (hB : w.heap.size = B) : OwnV 3 B (B + 1) (w.alloc (.cells #[.int .i64 x] 3)) (.slice (some ⟨B, 0, none⟩) 1 1) (intVals [x]) := by
  subst hB
  exact .inr ⟨w.heap.size, 1, #[.int .i64 x], rfl, Nat.le_refl _, Nat.lt_succ_self _, heap_alloc_new w _, Nat.le_refl _, by unfold maxLen; omega, rfl, rfl⟩
theorem pick_four {v : Value} (hv : v ∈ [Value.int .i64 100, .int .i64 101, .int .i64 (-100), .int .i64 (-101)]) : ∃ x : Int, v = .int .i64 x ∧ -101 ≤ x ∧ x ≤ 101 := by
  simp only [List.mem_cons, List.not_mem_nil, or_false] at hv
  rcases hv with h | h | h | h <;> exact ⟨_, h, by omega, by omega⟩

set_option maxRecDepth 100000 in
set_option maxHeartbeats 3200000 in
theorem d_mbent (base p : Nat) (w : World) (hc : CurAt base w p) :
    Calls Tryz.prog 21 #[.pointer (some ⟨p, 0, none⟩)] w (DrewM base p w FewM) := by
  have hp := hc.lt
  have HC := Lib.hid hc
  clear hc
  go_enter Tryz.func21, Tryz.ntmps21
  go_wp2_with fail
  refine (draw_below base p 3 _ HC.out (by omega) (by omega)).mono ?_
  rintro e w1 ⟨⟨v, rfl, x, rfl, h0, h1⟩, hc1, hg1⟩
  obtain ⟨m, rfl⟩ : ∃ m : Nat, x = m := ⟨x.toNat, by omega⟩
  have hm : m ≤ 2 := by omega
  have U1 := Lib.hid hc1
  have K1 := Lib.hid (Kept.of_grown hg1)
  clear hc1 hg1 h0 h1
  go_wp2_with fail
  refine (d_mat base p (1 + m) 5 (by omega) (by omega) (by omega) _ U1.out).mono ?_
  rintro e w2 ⟨⟨v, zss, rfl, ⟨hl, hr⟩, ho⟩, hc2, hk2⟩
  obtain ⟨a0, c0, rfl, -⟩ := ho.rw.shape
  obtain ⟨g, u, rfl, -⟩ := ho.at 0 (by omega) rfl
  have LZ := Lib.hid hl
  have RZ := Lib.hid hr
  have K2 := Lib.hid (K1.out.trans hk2)
  have O2 := Lib.hid (ho.mono (lo' := w.heap.size) K1.out.size (Nat.le_refl _))
  have U2 := Lib.hid hc2
  clear hl hr ho hc2 hk2
  rw [LZ.out]
  have O2' := O2.out
  rw [LZ.out] at O2'
  have O2n := Lib.hid O2'
  clear O2 O2'
  go_wp2_with fail
  refine (draw_below base p 12 _ U2.out (by omega) (by omega)).mono ?_
  rintro e w3 ⟨⟨v, rfl, y, rfl, h0, h1⟩, hc3, hg3⟩
  have U3 := Lib.hid hc3
  have K3 := Lib.hid (K2.out.trans (Kept.of_grown hg3))
  have O3 := Lib.hid ((O2n.out.kept (Kept.of_grown hg3) (.inr (by omega))).mono (Nat.le_refl _) hg3.size)
  have S3 := Lib.hid K3.out.size
  clear hc3 hg3
  by_cases y0 : y = 0
  · subst y0
    go_wp2_with fail
    have Bd3 := Lib.hid ((Below.refl w3.heap.size w3).drew)
    have hz0 : 0 < zss.length := by have := LZ.out; omega
    have RZ0 := Lib.hid (RZ.out _ (List.getElem_mem hz0))
    obtain ⟨ga, ua, ea, hga, hga2, hga3, ca, -, oa, -, -⟩ := O3.out.at 0 hz0 rfl
    simp only [Option.some.injEq, Addr.mk.injEq, and_true] at ea
    obtain rfl := ea
    obtain ⟨r, cr, rfl, hr1, hr2⟩ := oa.form (by rw [intVals_len, RZ0.out.1]; omega)
    rw [intVals_len, RZ0.out.1] at ca
    clear oa
    refine T_begin (z := fun k => 5 < k) (S := fun (w' : World) => w'.cell? ⟨g, 0, none⟩ = some (.slice (some ⟨r, 0, none⟩) (1 + m) cr)) (by kernel_rfl) ?_
    show wpAnyT _ _ _ _ _ _ 8 _ _ _
    have hS0 := Lib.hid (show (fun (w' : World) => w'.cell? ⟨g, 0, none⟩ = some (.slice (some ⟨r, 0, none⟩) (1 + m) cr)) _ from ca)
    refine T_take (i := 0) (v := (.slice (some ⟨g, 0, none⟩) (1 + m) c0)) rfl (by kernel_rfl) (by kernel_rfl) (by kernel_rfl) (by kernel_rfl) (fun _ _ _ h => h) hS0.out (by kernel_rfl) (fun w' hS' => by (try dsimp only at hS'); go_simp) ?_
    refine T_take (i := 1) (v := (.pointer (some ⟨g, 0, none⟩))) rfl (by kernel_rfl) (by kernel_rfl) (by kernel_rfl) (by kernel_rfl) (fun _ _ _ h => h) hS0.out (by kernel_rfl) (fun w' hS' => by (try dsimp only at hS'); go_simp; exact fun h => absurd h (by omega)) ?_
    refine T_take (i := 2) (v := (.slice (some ⟨r, 0, none⟩) (1 + m) cr)) rfl (by kernel_rfl) (by kernel_rfl) (by kernel_rfl) (by kernel_rfl) (fun _ _ _ h => h) hS0.out (by kernel_rfl) (fun w' hS' => by (try dsimp only at hS'); go_simp) ?_
    refine T_take (i := 3) (v := (.pointer (some ⟨p, 0, none⟩))) rfl (by kernel_rfl) (by kernel_rfl) (by kernel_rfl) (by kernel_rfl) (fun _ _ _ h => h) hS0.out (by kernel_rfl) (fun w' hS' => by (try dsimp only at hS'); go_simp) ?_
    refine T_step (i := 4) rfl (by kernel_rfl) rfl (by kernel_rfl) ?_
    intro K hK
    go_simp
    have BA := Lib.hid (show Below w3.heap.size w3 (w3.alloc (.cells #[.int .i64 100, .int .i64 101, .int .i64 (-100), .int .i64 (-101)] 3)).drew from (below1 w3 _).drew)
    refine hK.out _ _ (show (w3.alloc (.cells #[.int .i64 100, .int .i64 101, .int .i64 (-100), .int .i64 (-101)] 3)).drew.cell? ⟨g, 0, none⟩ = some _ by rw [BA.out.cell (p := ⟨g, 0, none⟩) hga3]; exact ca) ?_
    clear hK K
    refine T_step (i := 5) rfl (by kernel_rfl) rfl (by kernel_rfl) ?_
    intro K hK
    go_simp
    refine (draw_pick_int base p w3.heap.size [.int .i64 100, .int .i64 101, .int .i64 (-100), .int .i64 (-101)] _ (U3.out.below BA.out) (by decide) (by decide) (Nat.ne_of_gt U3.out.lt) (heap_alloc_new w3 _)).mono ?_
    rintro e w4 ⟨⟨v4, rfl, hv⟩, hc4, hg4⟩
    obtain ⟨x, rfl, x0, x1⟩ := pick_four hv
    have k4 := Kept.of_grown hg4
    have W4 := Lib.hid ((O3.out.below BA.out).kept k4 (.inr (by omega)))
    have U4 := Lib.hid hc4
    have K4 := Lib.hid ((K3.out.andB (BA.out.mono S3.out)).trans k4)
    have Z4 := Lib.hid (show w3.heap.size ≤ w4.heap.size from Nat.le_trans BA.out.size k4.size)
    have ca4 : w4.cell? ⟨g, 0, none⟩ = some (.slice (some ⟨r, 0, none⟩) (1 + m) cr) := by
      rw [hg4.cell_far ⟨g, 0, none⟩ (Nat.lt_of_lt_of_le hga2 BA.out.size) (by intro e; injection e with e; simp only at e; omega), BA.out.cell (p := ⟨g, 0, none⟩) hga3]
      exact ca
    clear hc4 hg4 k4 hv
    obtain ⟨gb, ub, eb, -, -, -, cb, -, ob, -, hput⟩ := W4.out.at 0 hz0 rfl
    simp only [Option.some.injEq, Addr.mk.injEq, and_true] at eb
    obtain rfl := eb
    obtain rfl : ub = .slice (some ⟨r, 0, none⟩) (1 + m) cr := by rw [ca4] at cb; exact (Option.some.inj cb).symm
    clear cb ca hS0
    have oq := ob.owns
    rw [intVals_len, RZ0.out.1] at oq
    have OQ := Lib.hid oq
    have HP := Lib.hid hput
    have fz := oq.frozenAt 0
    have cz : w4.cell? ⟨r, 0, none⟩ = some (.int .i64 zss[0][0]!) := by
      rw [oq.cellAt 0 (by omega), intVals, List.getElem?_map]
      rw [List.getElem?_eq_getElem (by rw [RZ0.out.1]; omega)]
      simp [List.getElem!_eq_getElem?_getD, List.getElem?_eq_getElem (show 0 < zss[0].length by rw [RZ0.out.1]; omega)]
    clear oq ob hput
    have hm0 : ¬ (1 + (m : Int) ≤ 0) := by omega
    refine hK.out _ _ ca4 ?_
    clear hK K
    refine T_anytake (i := 6) (v := .pointer (some ⟨r, 0, none⟩)) rfl (by kernel_rfl) (by kernel_rfl) (by kernel_rfl) (by kernel_rfl) (fun _ _ _ h => h) (by kernel_rfl) (fun w' => by go_simp) ?_
    refine T_last (i := 7) rfl (by kernel_rfl) (by kernel_rfl) rfl rfl ?_
    go_simp
    go_wp2
    go_ret
    have hks := (Kept.refl r (r + 1) w4).setCell (p := ⟨r, 0, none⟩) (Nat.le_refl _) (Nat.lt_succ_self _) (.int .i64 x)
    have W5 := HP.out (w4.setCell ⟨r, 0, none⟩ (.int .i64 x)) (zss[0].set 0 x) ?_ (fun q hq => by obtain rfl := hq r rfl; exact hks)
    have b5 : Below w.heap.size w4 (w4.setCell ⟨r, 0, none⟩ (.int .i64 x)) := (Below.refl _ _).setCell (p := ⟨r, 0, none⟩) hr1 _
    · refine ⟨⟨_, zss.set 0 (zss[0].set 0 x), rfl, ⟨by rw [List.length_set, LZ.out]; omega, ?_⟩, W5.mono (Nat.le_refl _) (by have := Z4.out; simp [World.setCell]; omega)⟩, U4.out.belowB b5 hp, K4.out.andB b5⟩
      intro q hq
      rcases List.mem_or_eq_of_mem_set hq with hq | rfl
      · exact (few_rows LZ.out (by omega) RZ.out (by omega)).2 q hq
      · refine ⟨by rw [List.length_set, RZ0.out.1]; omega, fun k hk => ?_⟩
        rw [List.getElem_set]
        split
        · exact ⟨x0, x1⟩
        · rw [List.length_set] at hk
          exact bd_le RZ0.out.2 (by omega) k hk
    · have h := (OQ.out.stored 0 (.int .i64 x)).1
      rw [intVals_set]
      rcases OwnV.of_owns h with ⟨h7, _⟩ | ⟨q, cap, cur, e2, h8, _, h9⟩
      · have h8 := congrArg List.length h7
        rw [List.length_set, intVals_len, RZ0.out.1, List.length_nil] at h8
        omega
      · simp only [Value.slice.injEq, Option.some.injEq, Addr.mk.injEq] at e2
        obtain ⟨⟨rfl, _, _⟩, e3, rfl⟩ := e2
        exact .inr ⟨r, cr, cur, by rw [List.length_set, intVals_len, RZ0.out.1], hr1, hr2, h9⟩
  · by_cases y1 : y = 1
    · subst y1
      have OS := Lib.hid (own_single w3 1 rfl)
      have B1 := Lib.hid (below1 w3 (.cells #[.int .i64 1] 3))
      have Z1 := Lib.hid (show (w3.alloc (.cells #[.int .i64 1] 3)).heap.size = w3.heap.size + 1 by rw [World.size_alloc])
      go_wp2_with (at_builtin; go_loud (refine list_app_row2 rfl _ _ rfl w.heap.size w3.heap.size _ _ zss [1] rfl ((O3.out.below B1.out).below (below1 _ _)) ((OS.out.below (below1 _ _)).mono (Nat.le_refl _) (by rw [World.size_alloc, Z1.out]; omega)) (w3.heap.size + 1) rfl (by have h := heap_alloc_new (w3.alloc (.cells #[.int .i64 1] 3)) (.cells #[.slice (some ⟨w3.heap.size, 0, none⟩) 1 1] 27); rw [Z1.out] at h; exact h) (by have := LZ.out; omega) S3.out (by rw [World.size_alloc, Z1.out]; omega) ?_; intro g4 cap w4 hown hbel _ _; have HO4 := Lib.hid hown; have HB4 := Lib.hid hbel; clear hown hbel))
      go_wp2
      go_ret
      have hb := (((B1.out.mono S3.out).alloc (by rw [Z1.out]; have := S3.out; omega) _).trans HB4.out)
      refine ⟨⟨_, zss ++ [[1]], rfl, ⟨?_, ?_⟩, HO4.out⟩, U3.out.belowB hb hp, K3.out.andB hb⟩
      · rw [List.length_append, LZ.out]; simp; omega
      · intro q hq
        rcases List.mem_append.1 hq with hq | hq
        · exact (few_rows LZ.out (by omega) RZ.out (by omega)).2 q hq
        · rw [List.mem_singleton] at hq
          subst hq
          exact ⟨by simp, fun k hk => by simp at hk; subst hk; simp⟩
    · by_cases y2 : y = 2
      · subst y2
        go_wp2
        go_ret
        have hb := (Below.refl w.heap.size w3).alloc S3.out (.cells #[] 27)
        exact ⟨⟨_, [], rfl, ⟨by simp, fun q hq => by cases hq⟩, owr_empty S3.out⟩, U3.out.belowB hb hp, K3.out.andB hb⟩
      · by_cases h345 : y = 3 ∨ y = 4 ∨ y = 5
        · rcases h345 with rfl | rfl | rfl <;>
          (go_wp2_with fail
           refine (draw_below base p 3 _ U3.out (by omega) (by omega)).mono ?_
           rintro e w4 ⟨⟨v, rfl, x, rfl, x0, x1⟩, hc4, hg4⟩
           obtain ⟨n, rfl⟩ : ∃ n : Nat, x = n := ⟨x.toNat, by omega⟩
           have U4 := Lib.hid hc4
           have K4 := Lib.hid (K3.out.trans (Kept.of_grown hg4))
           clear hc4 hg4
           go_wp2_with fail
           refine (d_unit base p (1 + n) (by omega) (by omega) _ U4.out).mono ?_
           rintro e w5 ⟨⟨v, zs5, rfl, ⟨hl5, hr5⟩, ho5⟩, hc5, hk5⟩
           have L5 := Lib.hid hl5
           have R5 := Lib.hid hr5
           have O5 := Lib.hid ho5
           have U5 := Lib.hid hc5
           have K5 := Lib.hid (K4.out.trans hk5)
           clear hl5 hr5 ho5 hc5 hk5
           go_wp2_with fail
           go_ret
           exact ⟨⟨_, zs5, rfl, few_rows L5.out (by omega) R5.out (by omega), O5.out.mono K4.out.size (Nat.le_refl _)⟩, U5.out, K5.out⟩)
        · have y3 : y ≠ 3 := fun e => h345 (.inl e)
          have y4 : y ≠ 4 := fun e => h345 (.inr (.inl e))
          have y5 : y ≠ 5 := fun e => h345 (.inr (.inr e))
          clear h345
          go_wp2_with fail
          go_ret
          exact ⟨⟨_, zss, rfl, few_rows LZ.out (by omega) RZ.out (by omega), O3.out⟩, U3.out, K3.out⟩
end Go.Proofs.YtjijgagdaolkcaaGreat
/- The drawing of the lattices. -/
namespace Go.Proofs.YtjijgagdaolkcaaGreat
open Go Go.RowKit Go.Lib

/-- A matrix was drawn out of a law's bytes. -/
def DrewMV (w : World) (P : List (List Int) → Prop) (e : Ending) (w' : World) : Prop :=
  (∃ v zss, e = .returned v ∧ P zss ∧ OwR 27 3 w.heap.size w'.heap.size w' v zss) ∧ Below w.heap.size w w'
/-- A matrix and a list. -/
def DrewMVL (w : World) (P : List (List Int) → List Int → Prop) (e : Ending) (w' : World) : Prop :=
  (∃ v u zss xs, e = .returned (.tuple #[v, u]) ∧ P zss xs ∧ OwR 27 3 w.heap.size w'.heap.size w' v zss ∧ OwnV 3 w.heap.size w'.heap.size w' u (intVals xs)) ∧ Below w.heap.size w w'

set_option maxRecDepth 100000 in
set_option maxHeartbeats 800000 in
theorem d_cellpoints (a : Option Addr) (c : Nat) (zs : List Int) (w0 w : World) (hbw : Below w0.heap.size w0 w) (hc : CodeIn w0 a zs) :
    Calls Tryz.prog 5 #[.slice a zs.length c] w (DrewMV w FewM) := by
  have HC := Lib.hid hc
  have HB0 := Lib.hid hbw
  clear hc hbw
  go_enter Tryz.func5, Tryz.ntmps5
  go_wp2_with fail
  refine (draw_new' a c zs w0 w HB0.out HC.out).mono ?_
  rintro e w1 ⟨⟨p, rfl, hp, hcur⟩, hb1⟩
  have HU1 := Lib.hid hcur
  have HB1 := Lib.hid hb1
  clear hcur hb1
  go_wp2_with fail
  refine (d_mbent _ p _ HU1.out).mono ?_
  rintro e w2 ⟨⟨v, zss, rfl, hf, ho⟩, hc2, hk2⟩
  have HB2 := Lib.hid (HB1.out.trans (hk2.below hp HB1.out.size))
  have HO2 := Lib.hid (ho.mono (lo' := w.heap.size) HB1.out.size (Nat.le_refl _))
  have HF := Lib.hid hf
  clear hc2 hk2 ho hf
  go_wp2_with fail
  go_ret
  exact ⟨⟨_, zss, rfl, HF.out, HO2.out⟩, HB2.out⟩

/-- A matrix, and a list that may be of its size. -/
def FewMX (zss : List (List Int)) (xs : List Int) : Prop := FewM zss ∧ xs.length ≤ 5 ∧ Bd xs 30

set_option maxRecDepth 100000 in
set_option maxHeartbeats 800000 in
theorem d_case8 (a : Option Addr) (c : Nat) (zs : List Int) (w0 w : World) (hbw : Below w0.heap.size w0 w) (hc : CodeIn w0 a zs) :
    Calls Tryz.prog 31 #[.slice a zs.length c] w (DrewMVL w FewMX) := by
  have HC := Lib.hid hc
  have HB0 := Lib.hid hbw
  clear hc hbw
  go_enter Tryz.func31, Tryz.ntmps31
  go_wp2_with fail
  refine (draw_new' a c zs w0 w HB0.out HC.out).mono ?_
  rintro e w1 ⟨⟨p, rfl, hp, hcur⟩, hb1⟩
  have HU1 := Lib.hid hcur
  have HB1 := Lib.hid hb1
  clear hcur hb1
  go_wp2_with fail
  refine (d_mbent _ p _ HU1.out).mono ?_
  rintro e w2 ⟨⟨v, zss, rfl, hf, ho⟩, hc2, hk2⟩
  have hp1 := HU1.out.lt
  obtain ⟨va, vc, rfl, -⟩ := ho.rw.shape
  have HU2 := Lib.hid hc2
  have HB2 := Lib.hid (HB1.out.trans (hk2.below hp HB1.out.size))
  have HO2 := Lib.hid ho
  have HF := Lib.hid hf
  have hl4 : zss.length ≤ 4 := hf.1
  clear hc2 hk2 ho hf
  go_wp2_with fail
  refine (d_once _ p 14 _ HU2.out (by omega) (by omega)).mono ?_
  rintro e w3 ⟨⟨coin, rfl⟩, hc3, hk3⟩
  have HU3 := Lib.hid hc3
  have HB3 := Lib.hid (HB2.out.trans (hk3.below hp HB2.out.size))
  have HO3 := Lib.hid ((HO2.out.kept hk3 (.inr (by omega))).mono (Nat.le_refl _) hk3.size)
  clear hc3 hk3
  go_wp2_with fail
  refine (s_bit' coin _).mono ?_
  rintro e w4 ⟨rfl, rfl⟩
  obtain ⟨y, hy, y0, y1⟩ : ∃ y : Int, (if coin = true then (1 : Int) else 0) = y ∧ 0 ≤ y ∧ y ≤ 1 := by
    cases coin
    · exact ⟨0, rfl, by omega, by omega⟩
    · exact ⟨1, rfl, by omega, by omega⟩
  rw [hy]
  clear hy
  go_wp2_with fail
  refine (s_max _ _ _).mono ?_
  rintro e w5 ⟨rfl, rfl⟩
  obtain ⟨n, hn, hn5⟩ : ∃ n : Nat, max 1 ((zss.length : Int) + y) = n ∧ n ≤ 5 := ⟨(max 1 ((zss.length : Int) + y)).toNat, by omega, by omega⟩
  rw [hn]
  clear hn
  go_wp2_with fail
  refine (d_draw _ p n 30 (by omega) (by omega) (by omega) _ HU3.out).mono ?_
  rintro e w6 ⟨⟨u, xs, rfl, ⟨hl, hb⟩, ho⟩, hc6, hk6⟩
  have HB6 := Lib.hid (HB3.out.trans (hk6.below hp HB3.out.size))
  have HO6 := Lib.hid ((HO3.out.kept hk6 (.inr (by omega))).mono HB1.out.size hk6.size)
  have HV6 := Lib.hid (ho.mono (lo' := w.heap.size) HB3.out.size (Nat.le_refl _))
  have HL := Lib.hid hl
  have HD := Lib.hid hb
  clear hc6 hk6 ho hl hb
  go_wp2_with fail
  go_ret2
  exact ⟨⟨_, _, zss, xs, rfl, ⟨HF.out, by rw [HL.out]; exact hn5, HD.out⟩, HO6.out, HV6.out⟩, HB6.out⟩

set_option maxRecDepth 100000 in
set_option maxHeartbeats 800000 in
theorem d_classleader (a : Option Addr) (c : Nat) (zs : List Int) (w0 w : World) (hbw : Below w0.heap.size w0 w) (hc : CodeIn w0 a zs) :
    Calls Tryz.prog 8 #[.slice a zs.length c] w (DrewMVL w FewMX) := by
  have HC := Lib.hid hc
  have HB0 := Lib.hid hbw
  clear hc hbw
  go_enter Tryz.func8, Tryz.ntmps8
  go_wp2_with fail
  refine (d_case8 a c zs w0 w HB0.out HC.out).mono ?_
  rintro e w1 ⟨⟨v, u, zss, xs, rfl, hf, ho, hv⟩, hb1⟩
  have HF := Lib.hid hf
  have HO := Lib.hid ho
  have HV := Lib.hid hv
  have HB1 := Lib.hid hb1
  clear hf ho hv hb1
  go_wp2_with fail
  go_ret2
  exact ⟨⟨_, _, zss, xs, rfl, HF.out, HO.out, HV.out⟩, HB1.out⟩
end Go.Proofs.YtjijgagdaolkcaaGreat
