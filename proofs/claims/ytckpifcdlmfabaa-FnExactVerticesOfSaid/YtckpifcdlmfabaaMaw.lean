/- Equality of halves and regions that read alike. -/
import Derived.Test.YtckpifcdlmfabaaMal
import Derived.Test.YtckpifcdlmfabaaRowEq
import Derived.Test.YtckpifcdlmfabaaMai
import Derived.Test.YtckpifcdlmfabaaMab
namespace Go.Proofs.Ytckpifcdlmfabaa
open Go.RowKit Go.Lib

set_option maxRecDepth 100000 in
set_option maxHeartbeats 400000 in
theorem eq_half (h : Hf) (v u : Value) (w : World) (hv : Hv w v h) (hu : Hv w u h) :
    Calls Try.prog 106 #[v, u] w (Quiet w (.bool true)) := by
  obtain ⟨x, rfl, hx⟩ := hv
  obtain ⟨y, rfl, hy⟩ := hu
  have HX := Lib.hid hx
  have HY := Lib.hid hy
  have B0 := Lib.hid (below2 w (.cells #[x, .int .i64 h.2] 99) (.cells #[y, .int .i64 h.2] 99))
  have K := Lib.hid (Bk.pair w #[x, .int .i64 h.2] #[y, .int .i64 h.2] 99 99)
  clear hx hy
  go_enter Try.func106, Try.ntmps106
  go_wp2_with fail
  refine (eq_int h.1 x y _ (HX.out.below B0.out) (HY.out.below B0.out)).mono ?_
  rintro e w1 ⟨rfl, hb⟩
  have B1 := Lib.hid (B0.out.trans (hb.mono B0.out.size))
  obtain ⟨⟨_, a1⟩, _⟩ := (K.out.1.below hb).two
  obtain ⟨⟨_, b1⟩, _⟩ := (K.out.2.below hb).two
  clear hb
  go_wp2_with fail
  go_ret
  exact ⟨rfl, B1.out⟩

theorem keepF4 {w W : World} {p q r s : Addr} {x y z t : Value} (h1 : W.cell? p = some x) (h2 : W.cell? q = some y) (h4 : W.cell? r = some z) (h5 : W.cell? s = some t) (h3 : Below w.heap.size w W) : W.drew.cell? p = some x ∧ W.drew.cell? q = some y ∧ W.drew.cell? r = some z ∧ W.drew.cell? s = some t ∧ Below w.heap.size w W.drew := ⟨h1, h2, h4, h5, h3.drew⟩
theorem keepE4 {w W w1 : World} {p q r s : Addr} {x y z t : Value} (hp : p.block < w.heap.size) (hq : q.block < w.heap.size) (hr : r.block < w.heap.size) (hs : s.block < w.heap.size) (h1 : W.cell? p = some x) (h2 : W.cell? q = some y) (h4 : W.cell? r = some z) (h5 : W.cell? s = some t) (h3 : Below w.heap.size w W) (hb : Below W.heap.size W w1) :
    w1.cell? p = some x ∧ w1.cell? q = some y ∧ w1.cell? r = some z ∧ w1.cell? s = some t ∧ Below w.heap.size w w1 :=
  ⟨(hb.cell (Nat.lt_of_lt_of_le hp h3.size)).trans h1, (hb.cell (Nat.lt_of_lt_of_le hq h3.size)).trans h2, (hb.cell (Nat.lt_of_lt_of_le hr h3.size)).trans h4, (hb.cell (Nat.lt_of_lt_of_le hs h3.size)).trans h5, h3.trans (hb.mono h3.size)⟩

set_option maxRecDepth 100000 in
set_option maxHeartbeats 800000 in
theorem eq_halfs (hs : List Hf) (v u : Value) (w : World) (hv : Hs w v hs) (hu : Hs w u hs) :
    Calls Try.prog 58 #[v, u] w (Quiet w (.bool true)) := by
  have HV := Lib.hid hv
  have HU := Lib.hid hu
  obtain ⟨a, c, rfl, hm⟩ := hv.shape
  obtain ⟨a', c', rfl, _⟩ := hu.shape
  unfold maxLen at hm
  clear hv hu
  go_enter Try.func58, Try.ntmps58
  go_wp2
  go_loopw [5] (fun i wr => ∃ k : Nat, k ≤ hs.length ∧ i = .int .i64 k ∧ Below w.heap.size w wr) (fun i _ => hs.length - (RowKit.intOf i).toNat)
  case atStart => exact ⟨0, Nat.zero_le _, rfl, Below.refl _ _⟩
  case round =>
    obtain ⟨k, hk, rfl, hbr⟩ := hrel
    have HB := Lib.hid hbr
    by_cases hlt : k < hs.length
    · obtain ⟨b, off, x, rfl, _, hb2, hcell, hcell1, hsx⟩ := HV.out.half k hlt rfl
      obtain ⟨b', off', y, rfl, _, hb2', hcell', hcell1', hsy⟩ := HU.out.half k hlt rfl
      rw [← hbr.cell (p := ⟨b, off + k * 2, none⟩) hb2] at hcell
      rw [← hbr.cell (p := ⟨b', off' + k * 2, none⟩) hb2'] at hcell'
      rw [← hbr.cell (p := ⟨b, off + k * 2 + 1, none⟩) hb2] at hcell1
      rw [← hbr.cell (p := ⟨b', off' + k * 2 + 1, none⟩) hb2'] at hcell1'
      have HX := Lib.hid hsx
      have HY := Lib.hid hsy
      have i1 : (0 : Int) ≤ (k : Int) := by omega
      have i2 : (k : Int) < (hs.length : Int) := by omega
      clear hsx hsy
      go_wp2
      go_region_held3 (fun w' => w'.cell? ⟨b, off + k * 2, none⟩ = some x ∧ w'.cell? ⟨b, off + k * 2 + 1, none⟩ = some (.int .i64 hs[k].2) ∧ w'.cell? ⟨b', off' + k * 2, none⟩ = some y ∧ w'.cell? ⟨b', off' + k * 2 + 1, none⟩ = some (.int .i64 hs[k].2) ∧ Below w.heap.size w w')
        (first
          | with_reducible exact keepF4 hcell hcell1 hcell' hcell1' hbr
          | (go_split_ands; with_reducible exact keepE4 hb2 hb2 hb2' hb2' (by assumption) (by assumption) (by assumption) (by assumption) (by assumption) (by assumption))
          | go_keep)
        (first | (go_at_call 106; refine (eq_half hs[k] _ _ _ ⟨x, rfl, HX.out.below HB.out.drew⟩ ⟨y, rfl, HY.out.below HB.out.drew⟩).mono ?_; rintro e w1 ⟨rfl, hb1⟩))
      rename_i hH
      have HB1 := Lib.hid hH.2.2.2.2
      clear hH hbr
      go_wp2
      exact ⟨⟨k + 1, by omega, by go_num, HB1.out⟩, by simp [RowKit.intOf]; omega⟩
    · obtain rfl : k = hs.length := by omega
      clear hbr
      go_wp2
      go_ret
      exact ⟨rfl, HB.out⟩

set_option maxRecDepth 100000 in
set_option maxHeartbeats 400000 in
theorem eq_region (r : Rgn) (v u : Value) (w : World) (hv : Rg w v r) (hu : Rg w u r) :
    Calls Try.prog 17 #[v, u] w (Quiet w (.bool true)) := by
  obtain ⟨x, rfl, hx⟩ := hv
  obtain ⟨y, rfl, hy⟩ := hu
  have HX := Lib.hid hx
  have HY := Lib.hid hy
  have B0 := Lib.hid (below2 w (.cells #[.int .i64 r.1, x] 30) (.cells #[.int .i64 r.1, y] 30))
  clear hx hy
  go_enter Try.func17, Try.ntmps17
  go_wp2_with fail
  refine (eq_halfs r.2 x y _ (HX.out.below B0.out) (HY.out.below B0.out)).mono ?_
  rintro e w1 ⟨rfl, hb⟩
  have B1 := Lib.hid (B0.out.trans (hb.mono B0.out.size))
  clear hb
  go_wp2_with fail
  go_ret
  exact ⟨rfl, B1.out⟩
end Go.Proofs.Ytckpifcdlmfabaa
/- The model's halves and regions: what is one, which points it has. -/
namespace Go.Proofs.Ytckpifcdlmfabaa
open Go.RowKit Go.Lib

theorem halfOk_f1 {n : Int} {h : Hf} (c : inR n 1 3 = false) : halfOk n h = false := by unfold halfOk; rw [c]; rfl
theorem halfOk_f2 {n : Int} {h : Hf} (c : ¬ (h.1.length : Int) = n) : halfOk n h = false := by unfold halfOk; rw [decide_eq_false c]; simp
theorem halfOk_f3 {n : Int} {h : Hf} (c : small h.1 20 = false) : halfOk n h = false := by unfold halfOk; rw [c]; simp
theorem halfOk_f4 {n : Int} {h : Hf} (c : ¬ 0 < allG h.1) : halfOk n h = false := by unfold halfOk; rw [decide_eq_false c]; simp
theorem halfOk_e {n : Int} {h : Hf} (c1 : inR n 1 3 = true) (c2 : (h.1.length : Int) = n) (c3 : small h.1 20 = true) (c4 : 0 < allG h.1) : halfOk n h = inR h.2 (-200) 200 := by
  unfold halfOk; rw [c1, c3, decide_eq_true c2, decide_eq_true c4]; rfl

set_option maxRecDepth 100000 in
set_option maxHeartbeats 800000 in
theorem s_ishalf (n : Int) (h : Hf) (v : Value) (w : World) (hv : Hv w v h) :
    Calls Try.prog 91 #[.int .i64 n, v] w (Quiet w (.bool (halfOk n h))) := by
  obtain ⟨u, rfl, hs⟩ := hv
  have HS := Lib.hid hs
  obtain ⟨a, c, rfl, hm, _⟩ := hs.shape
  rw [intVals_len] at hm HS ⊢
  unfold maxLen at hm
  have K := Lib.hid (Bk.new w #[.slice a h.1.length c, .int .i64 h.2] 99)
  have B0 := Lib.hid (below1 w (.cells #[.slice a h.1.length c, .int .i64 h.2] 99))
  clear hs
  by_cases c1 : inR n 1 3 = true
  · have C1 := Lib.hid c1
    by_cases c2 : (h.1.length : Int) = n
    · subst c2
      by_cases c3 : small h.1 20 = true
      · have C3 := Lib.hid c3
        have BD := Lib.hid (small_bd c3)
        by_cases c4 : 0 < allG h.1
        · have E := Lib.hid (halfOk_e (h := h) c1 rfl c3 c4)
          clear c1 c3
          go_enter Try.func91, Try.ntmps91
          go_wp2_with fail
          refine (s_in _ _ _ _).mono ?_
          rintro e w1 ⟨rfl, rfl⟩
          rw [C1.out]
          go_wp2_with fail
          refine (s_small h.1 20 (by omega) (by omega) _ _ (HS.out.below B0.out)).mono ?_
          rintro e w1 ⟨rfl, hb⟩
          rw [C3.out]
          have K1 := Lib.hid (K.out.below hb)
          have B1 := Lib.hid (B0.out.trans (hb.mono B0.out.size))
          clear hb
          obtain ⟨⟨l0, _⟩, -⟩ := K1.out.two
          go_wp2_with fail
          refine (s_all h.1 20 (by omega) (by omega) BD.out _ _ (HS.out.below B1.out)).mono ?_
          rintro e w2 ⟨rfl, hb⟩
          have K2 := Lib.hid (K1.out.below hb)
          have B2 := Lib.hid (B1.out.trans (hb.mono B1.out.size))
          clear hb l0
          obtain ⟨⟨_, l1⟩, -⟩ := K2.out.two
          go_wp2_with fail
          refine (s_in _ _ _ _).mono ?_
          rintro e w3 ⟨rfl, rfl⟩
          go_wp2_with fail
          go_ret
          exact ⟨ret_bool E.out.symm, B2.out⟩
        · have E := Lib.hid (halfOk_f4 (n := h.1.length) (h := h) c4)
          clear c1 c3
          go_enter Try.func91, Try.ntmps91
          go_wp2_with fail
          refine (s_in _ _ _ _).mono ?_
          rintro e w1 ⟨rfl, rfl⟩
          rw [C1.out]
          go_wp2_with fail
          refine (s_small h.1 20 (by omega) (by omega) _ _ (HS.out.below B0.out)).mono ?_
          rintro e w1 ⟨rfl, hb⟩
          rw [C3.out]
          have K1 := Lib.hid (K.out.below hb)
          have B1 := Lib.hid (B0.out.trans (hb.mono B0.out.size))
          clear hb
          obtain ⟨⟨l0, _⟩, -⟩ := K1.out.two
          go_wp2_with fail
          refine (s_all h.1 20 (by omega) (by omega) BD.out _ _ (HS.out.below B1.out)).mono ?_
          rintro e w2 ⟨rfl, hb⟩
          have B2 := Lib.hid (B1.out.trans (hb.mono B1.out.size))
          clear hb l0
          go_wp2_with fail
          go_ret
          exact ⟨ret_bool E.out.symm, B2.out⟩
      · have C3 := Lib.hid (bool_f c3)
        have E := Lib.hid (halfOk_f3 (n := h.1.length) (h := h) (bool_f c3))
        clear c1 c3
        go_enter Try.func91, Try.ntmps91
        go_wp2_with fail
        refine (s_in _ _ _ _).mono ?_
        rintro e w1 ⟨rfl, rfl⟩
        rw [C1.out]
        go_wp2_with fail
        refine (s_small h.1 20 (by omega) (by omega) _ _ (HS.out.below B0.out)).mono ?_
        rintro e w1 ⟨rfl, hb⟩
        rw [C3.out]
        have B1 := Lib.hid (B0.out.trans (hb.mono B0.out.size))
        clear hb
        go_wp2_with fail
        go_ret
        exact ⟨ret_bool E.out.symm, B1.out⟩
    · have E := Lib.hid (halfOk_f2 (h := h) c2)
      have hne : ((h.1.length : Int) == n) = false := by rw [beq_eq_false_iff_ne]; exact c2
      clear c1 c2
      go_enter Try.func91, Try.ntmps91
      go_wp2_with fail
      refine (s_in _ _ _ _).mono ?_
      rintro e w1 ⟨rfl, rfl⟩
      rw [C1.out]
      go_wp2_with fail
      go_ret
      exact ⟨ret_bool E.out.symm, B0.out⟩
  · have C1 := Lib.hid (bool_f c1)
    have E := Lib.hid (halfOk_f1 (h := h) (bool_f c1))
    clear c1
    go_enter Try.func91, Try.ntmps91
    go_wp2_with fail
    refine (s_in _ _ _ _).mono ?_
    rintro e w1 ⟨rfl, rfl⟩
    rw [C1.out]
    go_wp2_with fail
    go_ret
    exact ⟨ret_bool E.out.symm, B0.out⟩

theorem regOk_in {n : Int} {hs : List Hf} (h : inR n 1 3 = false) : regOk n hs = false := by unfold regOk; rw [h]; simp
theorem regOk_long {n : Int} {hs : List Hf} (h : ¬ hs.length ≤ 8) : regOk n hs = false := by unfold regOk; rw [decide_eq_false h]; simp
theorem regOk_e {n : Int} {hs : List Hf} (h1 : hs.all (halfOk n) = true) (h2 : inR n 1 3 = true) (h3 : hs.length ≤ 8) : regOk n hs = true := by unfold regOk; rw [h1, h2, decide_eq_true h3]; rfl

theorem regOk_i {n : Int} {hs : List Hf} (h1 : hs.all (halfOk n) = true) (h2 : inR n 1 3 = true) : regOk n hs = decide ((hs.length : Int) ≤ 8) := by
  unfold regOk
  rw [h1, h2]
  simp only [Bool.true_and]
  exact decide_eq_decide.2 (by omega)
set_option maxRecDepth 100000 in
set_option maxHeartbeats 800000 in
theorem s_isreg (r : Rgn) (v : Value) (w : World) (hv : Rg w v r) :
    Calls Try.prog 45 #[v] w (Quiet w (.bool (regOk r.1 r.2))) := by
  obtain ⟨n, hs'⟩ := r
  obtain ⟨u, rfl, hss⟩ := hv
  simp only at hss ⊢
  have HV := Lib.hid hss
  obtain ⟨a, c, rfl, hm⟩ := hss.shape
  unfold maxLen at hm
  have K := Lib.hid (Bk.new w #[.int .i64 n, .slice a hs'.length c] 30)
  have B0 := Lib.hid (below1 w (.cells #[.int .i64 n, .slice a hs'.length c] 30))
  clear hss
  go_enter Try.func45, Try.ntmps45
  go_wp2
  go_loopw [3] (fun i wr => ∃ k : Nat, k ≤ hs'.length ∧ i = .int .i64 k ∧ (hs'.take k).all (halfOk n) = true ∧ Below (w.alloc (.cells #[.int .i64 n, .slice a hs'.length c] 30)).heap.size (w.alloc (.cells #[.int .i64 n, .slice a hs'.length c] 30)) wr) (fun i _ => hs'.length - (RowKit.intOf i).toNat)
  case atStart => exact ⟨0, Nat.zero_le _, rfl, rfl, Below.refl _ _⟩
  case round =>
    obtain ⟨k, hk, rfl, ht, hbr⟩ := hrel
    have HB := Lib.hid hbr
    have HT := Lib.hid ht
    have HA := Lib.hid (B0.out.trans (hbr.mono B0.out.size))
    obtain ⟨⟨l0, l1⟩, -⟩ := (K.out.below hbr).two
    clear ht
    by_cases hlt : k < hs'.length
    · obtain ⟨b, off, x, rfl, _, hb2, hcell, hcell1, hsx⟩ := HV.out.half k hlt rfl
      rw [← HA.out.cell (p := ⟨b, off + k * 2, none⟩) hb2] at hcell
      rw [← HA.out.cell (p := ⟨b, off + k * 2 + 1, none⟩) hb2] at hcell1
      have HX := Lib.hid hsx
      have i1 : (0 : Int) ≤ (k : Int) := by omega
      have i2 : (k : Int) < (hs'.length : Int) := by omega
      have hb3 : b < (w.alloc (.cells #[.int .i64 n, .slice (some ⟨b, off, none⟩) hs'.length c] 30)).heap.size := by simp; omega
      have hb4 : w.heap.size < (w.alloc (.cells #[.int .i64 n, .slice (some ⟨b, off, none⟩) hs'.length c] 30)).heap.size := alloc_lt _ _
      clear hsx
      obtain ⟨q, hq⟩ : ∃ q : Bool, halfOk n hs'[k] = q := ⟨_, rfl⟩
      have HQ := Lib.hid hq
      clear hq
      go_wp2_with fail
      go_region_held3 (fun w' => w'.cell? ⟨w.heap.size, 0, none⟩ = some (.int .i64 n) ∧ w'.cell? ⟨w.heap.size, 1, none⟩ = some (.slice (some ⟨b, off, none⟩) hs'.length c) ∧ w'.cell? ⟨b, off + k * 2, none⟩ = some x ∧ w'.cell? ⟨b, off + k * 2 + 1, none⟩ = some (.int .i64 hs'[k].2) ∧ Below (w.alloc (.cells #[.int .i64 n, .slice (some ⟨b, off, none⟩) hs'.length c] 30)).heap.size (w.alloc (.cells #[.int .i64 n, .slice (some ⟨b, off, none⟩) hs'.length c] 30)) w')
        (first
          | with_reducible exact keepF4 l0 l1 hcell hcell1 hbr
          | (go_split_ands; with_reducible exact keepE4 hb4 hb4 hb3 hb3 (by assumption) (by assumption) (by assumption) (by assumption) (by assumption) (by assumption))
          | go_keep)
        (first | (go_at_call 91; refine (s_ishalf n hs'[k] _ _ ⟨x, rfl, HX.out.below HA.out.drew⟩).mono ?_; rintro e w1 ⟨rfl, hb1⟩; rw [HQ.out]))
      rename_i hH
      have HB1 := Lib.hid hH.2.2.2.2
      clear hH hbr l0 l1 hcell hcell1
      have HA1 := Lib.hid (B0.out.trans (HB1.out.mono B0.out.size))
      cases q with
      | true =>
        go_wp2
        exact ⟨⟨k + 1, by omega, by go_num, all_take' hlt HT.out HQ.out, HB1.out⟩, by simp [RowKit.intOf]; omega⟩
      | false =>
        go_wp2
        go_ret
        exact ⟨ret_bool (regOk_half hlt HQ.out).symm, HA1.out⟩
    · obtain rfl : k = hs'.length := by omega
      have HAll := Lib.hid (show hs'.all (halfOk n) = true by have h := HT.out; rw [List.take_length] at h; exact h)
      by_cases c1 : inR n 1 3 = true
      · have C1 := Lib.hid c1
        have E := Lib.hid (regOk_i HAll.out c1)
        clear c1 hbr
        go_wp2_with fail
        refine (s_in _ _ _ _).mono ?_
        rintro e w1 ⟨rfl, rfl⟩
        rw [C1.out]
        go_wp2_with fail
        go_ret
        exact ⟨ret_bool E.out.symm, HA.out⟩
      · have C1 := Lib.hid (bool_f c1)
        have E := Lib.hid (regOk_in (hs := hs') (bool_f c1))
        clear c1 hbr
        go_wp2_with fail
        refine (s_in _ _ _ _).mono ?_
        rintro e w1 ⟨rfl, rfl⟩
        rw [C1.out]
        go_wp2_with fail
        go_ret
        exact ⟨ret_bool E.out.symm, HA.out⟩
end Go.Proofs.Ytckpifcdlmfabaa
/- The model's regions: which points one has. -/
namespace Go.Proofs.Ytckpifcdlmfabaa
open Go.RowKit Go.Lib

theorem keepF3 {w W : World} {p q r : Addr} {x y z : Value} (h1 : W.cell? p = some x) (h2 : W.cell? q = some y) (h4 : W.cell? r = some z) (h3 : Below w.heap.size w W) : W.drew.cell? p = some x ∧ W.drew.cell? q = some y ∧ W.drew.cell? r = some z ∧ Below w.heap.size w W.drew := ⟨h1, h2, h4, h3.drew⟩
theorem keepE3 {w W w1 : World} {p q r : Addr} {x y z : Value} (hp : p.block < w.heap.size) (hq : q.block < w.heap.size) (hr : r.block < w.heap.size) (h1 : W.cell? p = some x) (h2 : W.cell? q = some y) (h4 : W.cell? r = some z) (h3 : Below w.heap.size w W) (hb : Below W.heap.size W w1) :
    w1.cell? p = some x ∧ w1.cell? q = some y ∧ w1.cell? r = some z ∧ Below w.heap.size w w1 :=
  ⟨(hb.cell (Nat.lt_of_lt_of_le hp h3.size)).trans h1, (hb.cell (Nat.lt_of_lt_of_le hq h3.size)).trans h2, (hb.cell (Nat.lt_of_lt_of_le hr h3.size)).trans h4, h3.trans (hb.mono h3.size)⟩
/-- Whether x is a vector with as many numbers as the region has dimensions. -/
def ptR (r : Rgn) (x : List Int) : Bool := regOk r.1 r.2 && (isV x && decide ((x.length : Int) = r.1))
theorem ptR_t {r : Rgn} {x : List Int} (h : ptR r x = true) : regOk r.1 r.2 = true ∧ isV x = true ∧ (x.length : Int) = r.1 := by
  unfold ptR at h
  simp only [Bool.and_eq_true, decide_eq_true_eq] at h
  exact h
theorem ptR_f1 {r : Rgn} {x : List Int} (h : regOk r.1 r.2 = false) : ptR r x = false := by unfold ptR; rw [h]; rfl
theorem ptR_f2 {r : Rgn} {x : List Int} (h : isV x = false) : ptR r x = false := by unfold ptR; rw [h]; simp
theorem ptR_f3 {r : Rgn} {x : List Int} (h : ¬ (x.length : Int) = r.1) : ptR r x = false := by unfold ptR; rw [decide_eq_false h]; simp
theorem ptR_mk {r : Rgn} {x : List Int} (h1 : regOk r.1 r.2 = true) (h2 : isV x = true) (h3 : (x.length : Int) = r.1) : ptR r x = true := by unfold ptR; rw [h1, h2, decide_eq_true h3]; rfl
theorem hasP_t {r : Rgn} {x : List Int} (h : ptR r x = true) : hasP r.1 r.2 x = hasL r.2 x := by
  obtain ⟨h1, h2, h3⟩ := ptR_t h
  unfold hasP; rw [h1, h2, decide_eq_true h3]; rfl
theorem hasP_f {r : Rgn} {x : List Int} (h : ptR r x = false) : hasP r.1 r.2 x = false := by
  have e : hasP r.1 r.2 x = (ptR r x && hasL r.2 x) := by unfold hasP ptR; rw [Bool.and_assoc, Bool.and_assoc]
  rw [e, h]; rfl

/-- What is known of a half of a region whose numbers meet a vector's. -/
theorem half_dot {r : Rgn} {x : List Int} (h : ptR r x = true) (k : Nat) (hk : k < r.2.length) : r.2[k].1.length = x.length ∧ r.2[k].1.length ≤ 3 ∧ Bd r.2[k].1 20 ∧ Bd x 1000 := by
  obtain ⟨h1, h2, h3⟩ := ptR_t h
  obtain ⟨a1, a2, a3, a4, a5, a6, a7⟩ := halfOk_t ((regOk_t h1).2.2.2 k hk)
  exact ⟨by omega, by omega, a4, small_bd (isV_t h2).2.2⟩

end Go.Proofs.Ytckpifcdlmfabaa
/- Plain facts: halves that are moved one by one; what moving and meeting answer. -/
namespace Go.Proofs.Ytckpifcdlmfabaa

/-- The first k are moved. -/
def movedH (hs : List Hf) (v : List Int) (k : Nat) : List Hf := moveL (hs.take k) v ++ hs.drop k
theorem movedH_len (hs : List Hf) (v : List Int) (k : Nat) : (movedH hs v k).length = hs.length := by
  unfold movedH
  rw [List.length_append, move_len, List.length_take, List.length_drop]; omega
theorem movedH_zero (hs : List Hf) (v : List Int) : movedH hs v 0 = hs := by simp [movedH, moveL]
theorem movedH_all (hs : List Hf) (v : List Int) : movedH hs v hs.length = moveL hs v := by simp [movedH]
theorem movedH_get {hs : List Hf} {v : List Int} {k : Nat} (h : k < hs.length) : (movedH hs v k)[k]? = some hs[k] := by
  unfold movedH
  rw [List.getElem?_append_right (by rw [move_len, List.length_take]; omega), move_len, List.length_take, Nat.min_eq_left (by omega), Nat.sub_self, List.getElem?_drop]
  simp [h]
theorem movedH_at {hs : List Hf} {v : List Int} {k : Nat} (h : k < hs.length) : (movedH hs v k)[k]'(by rw [movedH_len]; exact h) = hs[k] := by
  have h1 := movedH_get (v := v) h
  rw [List.getElem?_eq_getElem (by rw [movedH_len]; exact h)] at h1
  exact Option.some.inj h1
theorem movedH_step {hs : List Hf} {v : List Int} {k : Nat} (h : k < hs.length) : (movedH hs v k).set k (moveH v hs[k]) = movedH hs v (k + 1) := by
  unfold movedH
  rw [move_take h, List.set_append_right _ _ (by rw [move_len, List.length_take]; omega), move_len, List.length_take, Nat.min_eq_left (by omega), Nat.sub_self, List.drop_eq_getElem_cons h, List.set_cons_zero, List.append_assoc]
  rfl
/-- How great the product of a half's numbers with a vector is. -/
theorem half_dot_bd {r : Rgn} {x : List Int} (h : ptR r x = true) (k : Nat) (hk : k < r.2.length) : -60000 ≤ dotL r.2[k].1 x ∧ dotL r.2[k].1 x ≤ 60000 := by
  obtain ⟨h1, h2, h3, h4⟩ := half_dot h k hk
  have hb := dot_bd (by omega) h3 h4 r.2[k].1.length (Nat.le_refl _) (by omega)
  rw [List.take_length, h1, List.take_length] at hb
  have : (x.length : Int) ≤ 3 := by omega
  omega
theorem half_bound {r : Rgn} (h : regOk r.1 r.2 = true) (k : Nat) (hk : k < r.2.length) : -200 ≤ r.2[k].2 ∧ r.2[k].2 ≤ 200 := by
  have := halfOk_t ((regOk_t h).2.2.2 k hk)
  exact this.2.2.2.2.2
theorem half_lens {r : Rgn} (h : regOk r.1 r.2 = true) (k : Nat) (hk : k < r.2.length) : 0 < r.2[k].1.length ∧ r.2[k].1.length ≤ 1048576 := by
  have := halfOk_t ((regOk_t h).2.2.2 k hk)
  omega
theorem moveR_f {r : Rgn} {x : List Int} (h : ptR r x = false) : moveR r.1 r.2 x = ((0, []), false) := by
  unfold moveR
  refine if_neg fun k => ?_
  rw [ptR_mk k.1 k.2.1 k.2.2.1] at h
  cases h
theorem moveR_e {r : Rgn} {x : List Int} (h : ptR r x = true) : moveR r.1 r.2 x = if regOk r.1 (moveL r.2 x) = true then ((r.1, moveL r.2 x), true) else ((0, []), false) := by
  obtain ⟨h1, h2, h3⟩ := ptR_t h
  unfold moveR
  by_cases c : regOk r.1 (moveL r.2 x) = true
  · rw [if_pos ⟨h1, h2, h3, c⟩, if_pos c]
  · rw [if_neg (fun k => c k.2.2.2), if_neg c]
theorem meetR_f1 {n m : Int} {hs ks : List Hf} (h : regOk n hs = false) : meetR n hs m ks = ((0, []), false) := if_neg fun k => by rw [h] at k; cases k.1
theorem meetR_f2 {n m : Int} {hs ks : List Hf} (h : regOk m ks = false) : meetR n hs m ks = ((0, []), false) := if_neg fun k => by rw [h] at k; cases k.2.1
theorem meetR_f3 {n m : Int} {hs ks : List Hf} (h : ¬ n = m) : meetR n hs m ks = ((0, []), false) := if_neg fun k => h k.2.2.1
theorem meetR_e {n m : Int} {hs ks : List Hf} (h1 : regOk n hs = true) (h2 : regOk m ks = true) (h3 : n = m) : meetR n hs m ks = if regOk n (meetL hs ks) = true then ((n, meetL hs ks), true) else ((0, []), false) := by
  unfold meetR
  by_cases c : regOk n (meetL hs ks) = true
  · rw [if_pos ⟨h1, h2, h3, c⟩, if_pos c]
  · rw [if_neg (fun k => c k.2.2.2), if_neg c]
theorem new_same {hs ks : List Hf} {k : Nat} (h : k < ks.length) (hm : seenL hs ks[k] = true) : newL hs (ks.take (k + 1)) = newL hs (ks.take k) := by
  rw [new_take h, if_pos (of_decide_eq_true hm), List.append_nil]
theorem new_more {hs ks : List Hf} {k : Nat} (h : k < ks.length) (hm : seenL hs ks[k] = false) : newL hs (ks.take (k + 1)) = newL hs (ks.take k) ++ [ks[k]] := by
  rw [new_take h, if_neg (of_decide_eq_false hm)]
theorem seen_skip {hs : List Hf} {h : Hf} {k : Nat} (hk : k < hs.length) (hs1 : seenL (hs.take k) h = true) : seenL (hs.take (k + 1)) h = true := by rw [seen_take hk, hs1]; rfl
theorem seen_ask {hs : List Hf} {h : Hf} {k : Nat} (hk : k < hs.length) (hs1 : seenL (hs.take k) h = false) : seenL (hs.take (k + 1)) h = decide (hs[k] = h) := by rw [seen_take hk, hs1]; rfl
theorem new_len8 {hs ks : List Hf} {k : Nat} (h1 : hs.length ≤ 8) (h2 : ks.length ≤ 8) : (hs ++ newL hs (ks.take k)).length ≤ 16 := by
  have := new_len_le hs (ks.take k)
  rw [List.length_take] at this
  rw [List.length_append]; omega
theorem tot_four : ∀ hs : List Hf, (∀ h ∈ hs, h.1.length ≤ 3) → totH hs ≤ 4 * hs.length
  | [], _ => by simp [totH]
  | h :: hs, e => by
    have ih := tot_four hs fun k hk => e k (List.mem_cons_of_mem _ hk)
    have h3 := e h (List.mem_cons_self ..)
    simp only [totH, List.map_cons, List.sum_cons, List.length_cons] at ih ⊢
    omega
theorem regOk_tot {n : Int} {hs : List Hf} (h : regOk n hs = true) : totH hs ≤ 32 := by
  have h1 := regOk_t h
  have h2 := tot_four hs fun k hk => by
    obtain ⟨i, hi, rfl⟩ := List.mem_iff_getElem.1 hk
    have := halfOk_t (h1.2.2.2 i hi)
    omega
  omega
theorem meetR_tot (n : Int) (hs : List Hf) (m : Int) (ks : List Hf) : totH (meetR n hs m ks).1.2 ≤ 32 := by
  unfold meetR
  split
  · rename_i h; exact regOk_tot h.2.2.2
  · simp [totH]
theorem moveR_tot (n : Int) (hs : List Hf) (v : List Int) : totH (moveR n hs v).1.2 ≤ 32 := by
  unfold moveR
  split
  · rename_i h; exact regOk_tot h.2.2.2
  · simp [totH]
theorem move_tot (hs : List Hf) (v : List Int) : totN (moveL hs v) = totN hs := by
  unfold totN moveL
  rw [List.map_map]; rfl
end Go.Proofs.Ytckpifcdlmfabaa
/- The model's rational points: what is within the limits, and which one is less. -/
namespace Go.Proofs.Ytckpifcdlmfabaa
open Go.RowKit Go.Lib

set_option maxRecDepth 100000 in
set_option maxHeartbeats 400000 in
theorem s_fine (p : Hf) (v : Value) (w : World) (hv : Hv w v p) :
    Calls Try.prog 130 #[v] w (Quiet w (.bool (fineQ p))) := by
  obtain ⟨u, rfl, hs⟩ := hv
  have HS := Lib.hid hs
  have K := Lib.hid (Bk.new w #[u, .int .i64 p.2] 63)
  have B0 := Lib.hid (below1 w (.cells #[u, .int .i64 p.2] 63))
  clear hs
  by_cases c : inR p.2 1 100000 = true
  · have C := Lib.hid c
    have E := Lib.hid (fineQ_e c)
    clear c
    go_enter Try.func130, Try.ntmps130
    go_wp2_with fail
    refine (s_in _ _ _ _).mono ?_
    rintro e w1 ⟨rfl, rfl⟩
    rw [C.out]
    go_wp2_with fail
    refine (s_small p.1 10000000 (by omega) (by omega) _ _ (HS.out.below B0.out)).mono ?_
    rintro e w1 ⟨rfl, hb⟩
    have B1 := Lib.hid (B0.out.trans (hb.mono B0.out.size))
    clear hb
    go_wp2_with fail
    go_ret
    exact ⟨ret_bool E.out.symm, B1.out⟩
  · have C := Lib.hid (bool_f c)
    have E := Lib.hid (fineQ_f1 (bool_f c))
    clear c
    go_enter Try.func130, Try.ntmps130
    go_wp2_with fail
    refine (s_in _ _ _ _).mono ?_
    rintro e w1 ⟨rfl, rfl⟩
    rw [C.out]
    go_wp2_with fail
    go_ret
    exact ⟨ret_bool E.out.symm, B0.out⟩

/-- What two points' numbers are when they can be compared. -/
theorem cmp_prod {p q : Hf} (h1 : fineQ p = true) (h2 : fineQ q = true) (k : Nat) (hk : k < p.1.length) : -1000000000000 ≤ p.1[k] * q.2 ∧ p.1[k] * q.2 ≤ 1000000000000 := by
  obtain ⟨_, _, b⟩ := fineQ_t h1
  obtain ⟨a, c, _⟩ := fineQ_t h2
  have := mul_bd (b k hk).1 (b k hk).2 (show -100000 ≤ q.2 by omega) c
  omega

set_option maxRecDepth 100000 in
set_option maxHeartbeats 1600000 in
theorem s_cmp (p q : Hf) (v u : Value) (w : World) (hv : Hv w v p) (hu : Hv w u q) :
    Calls Try.prog 132 #[v, u] w (Quiet w (.int .i64 (cmpQ p q))) := by
  have HP := Lib.hid hv
  have HQ := Lib.hid hu
  obtain ⟨x, rfl, hx⟩ := hv
  obtain ⟨y, rfl, hy⟩ := hu
  have HX := Lib.hid hx
  have HY := Lib.hid hy
  obtain ⟨xa, xc, rfl, xm, _⟩ := hx.shape
  obtain ⟨ya, yc, rfl, ym, _⟩ := hy.shape
  rw [intVals_len] at xm HX HP ym HY HQ ⊢
  rw [intVals_len]
  unfold maxLen at xm ym
  have B0 := Lib.hid (below2 w (.cells #[.slice xa p.1.length xc, .int .i64 p.2] 63) (.cells #[.slice ya q.1.length yc, .int .i64 q.2] 63))
  have K := Lib.hid (Bk.pair w #[.slice xa p.1.length xc, .int .i64 p.2] #[.slice ya q.1.length yc, .int .i64 q.2] 63 63)
  clear hx hy
  by_cases c1 : fineQ p = true
  case neg =>
    have C1 := Lib.hid (bool_f c1)
    have E := Lib.hid (cmpQ_f1 (q := q) (bool_f c1))
    clear c1
    go_enter Try.func132, Try.ntmps132
    go_wp2_with fail
    refine (s_fine p _ _ (HP.out.below B0.out)).mono ?_
    rintro e w1 ⟨rfl, hb⟩
    rw [C1.out]
    have B1 := Lib.hid (B0.out.trans (hb.mono B0.out.size))
    clear hb
    go_wp2_with fail
    go_ret
    exact ⟨ret_int E.out.symm, B1.out⟩
  have C1 := Lib.hid c1
  by_cases c2 : fineQ q = true
  case neg =>
    have C2 := Lib.hid (bool_f c2)
    have E := Lib.hid (cmpQ_f2 (p := p) (bool_f c2))
    clear c1 c2
    go_enter Try.func132, Try.ntmps132
    go_wp2_with fail
    refine (s_fine p _ _ (HP.out.below B0.out)).mono ?_
    rintro e w1 ⟨rfl, hb⟩
    rw [C1.out]
    have B1 := Lib.hid (B0.out.trans (hb.mono B0.out.size))
    obtain ⟨⟨n0, n1⟩, -⟩ := (K.out.2.below hb).two
    clear hb
    go_wp2_with fail
    refine (s_fine q _ _ (HQ.out.below B1.out)).mono ?_
    rintro e w2 ⟨rfl, hb⟩
    rw [C2.out]
    have B2 := Lib.hid (B1.out.trans (hb.mono B1.out.size))
    clear hb n0 n1
    go_wp2_with fail
    go_ret
    exact ⟨ret_int E.out.symm, B2.out⟩
  have C2 := Lib.hid c2
  by_cases c3 : p.1.length = q.1.length
  case neg =>
    have E := Lib.hid (cmpQ_f3 c3)
    have hne : ¬ (p.1.length : Int) = (q.1.length : Int) := by omega
    clear c1 c2 c3
    go_enter Try.func132, Try.ntmps132
    go_wp2_with fail
    refine (s_fine p _ _ (HP.out.below B0.out)).mono ?_
    rintro e w1 ⟨rfl, hb⟩
    rw [C1.out]
    have B1 := Lib.hid (B0.out.trans (hb.mono B0.out.size))
    have K1 := Lib.hid (And.intro (K.out.1.below hb) (K.out.2.below hb))
    obtain ⟨⟨n0, n1⟩, -⟩ := K1.out.2.two
    clear hb
    go_wp2_with fail
    refine (s_fine q _ _ (HQ.out.below B1.out)).mono ?_
    rintro e w2 ⟨rfl, hb⟩
    rw [C2.out]
    have B2 := Lib.hid (B1.out.trans (hb.mono B1.out.size))
    clear n0 n1
    obtain ⟨⟨m0, m1⟩, -⟩ := (K1.out.1.below hb).two
    obtain ⟨⟨n0, n1⟩, -⟩ := (K1.out.2.below hb).two
    clear hb
    go_wp2_with fail
    go_ret
    exact ⟨ret_int E.out.symm, B2.out⟩
  have E := Lib.hid (cmpQ_t c1 c2 c3)
  have PP := Lib.hid (fun k hk => cmp_prod c1 c2 k hk)
  have PQ := Lib.hid (fun k hk => cmp_prod c2 c1 k hk)
  have C3 := Lib.hid c3
  have hbeq : ((p.1.length : Int) == (q.1.length : Int)) = true := by rw [beq_iff_eq]; omega
  clear c1 c2 c3
  go_enter Try.func132, Try.ntmps132
  go_wp2_with fail
  refine (s_fine p _ _ (HP.out.below B0.out)).mono ?_
  rintro e w1 ⟨rfl, hb⟩
  rw [C1.out]
  have B1 := Lib.hid (B0.out.trans (hb.mono B0.out.size))
  have K1 := Lib.hid (And.intro (K.out.1.below hb) (K.out.2.below hb))
  obtain ⟨⟨n0, n1⟩, -⟩ := K1.out.2.two
  clear hb
  go_wp2_with fail
  refine (s_fine q _ _ (HQ.out.below B1.out)).mono ?_
  rintro e w2 ⟨rfl, hb⟩
  rw [C2.out]
  have B2 := Lib.hid (B1.out.trans (hb.mono B1.out.size))
  have K2 := Lib.hid (And.intro (K1.out.1.below hb) (K1.out.2.below hb))
  clear n0 n1 hb
  obtain ⟨⟨m0, m1⟩, -⟩ := K2.out.1.two
  obtain ⟨⟨n0, n1⟩, -⟩ := K2.out.2.two
  go_wp2
  clear m0 m1 n0 n1
  go_loopw [5] (fun i wr => ∃ k : Nat, k ≤ p.1.length ∧ i = .int .i64 k ∧ cmpN (p.1.drop k) p.2 (q.1.drop k) q.2 = cmpQ p q ∧ Below w2.heap.size w2 wr) (fun i _ => p.1.length - (RowKit.intOf i).toNat)
  case atStart => exact ⟨0, Nat.zero_le _, rfl, by rw [E.out]; rfl, Below.refl _ _⟩
  case round =>
    obtain ⟨k, hk, rfl, ht, hbr⟩ := hrel
    have HB := Lib.hid hbr
    have HT := Lib.hid ht
    have HA := Lib.hid (B2.out.trans (hbr.mono B2.out.size))
    obtain ⟨⟨m0, m1⟩, -⟩ := (K2.out.1.below hbr).two
    obtain ⟨⟨n0, n1⟩, -⟩ := (K2.out.2.below hbr).two
    clear ht
    by_cases hlt : k < p.1.length
    · have hlt' : k < q.1.length := by have := C3.out; omega
      obtain ⟨b, off, rfl, hb2, hcell⟩ := HX.out.get k hlt
      obtain ⟨b', off', rfl, hb2', hcell'⟩ := HY.out.get k hlt'
      rw [← HA.out.cell (p := ⟨b, off + k, none⟩) hb2] at hcell
      rw [← HA.out.cell (p := ⟨b', off' + k, none⟩) hb2'] at hcell'
      have i1 : (0 : Int) ≤ (k : Int) := by omega
      have i2 : (k : Int) < (p.1.length : Int) := by omega
      have i3 : (k : Int) < (q.1.length : Int) := by omega
      obtain ⟨p1, p2⟩ := PP.out k hlt
      obtain ⟨q1, q2⟩ := PQ.out k hlt'
      have EQ := Lib.hid (cmpN_eq (d := p.2) (e := q.2) hlt hlt')
      have LT := Lib.hid (cmpN_lt (d := p.2) (e := q.2) hlt hlt')
      have GT := Lib.hid (cmpN_gt (d := p.2) (e := q.2) hlt hlt')
      generalize p.1[k] = s at *
      generalize q.1[k] = t at *
      clear hbr
      by_cases e1 : s * q.2 = t * p.2
      · have hne : (s * q.2 != t * p.2) = false := by rw [bne_eq_false_iff_eq]; exact e1
        have E2 := Lib.hid ((EQ.out e1).symm.trans HT.out)
        go_wp2
        go_region
        go_wp2
        go_region
        go_wp2
        exact ⟨⟨k + 1, by omega, by go_num, E2.out, HB.out.drew.drew⟩, by simp [RowKit.intOf]; omega⟩
      · have hne : (s * q.2 != t * p.2) = true := by rw [bne_iff_ne]; exact e1
        by_cases e2 : s * q.2 < t * p.2
        · have E2 := Lib.hid ((LT.out e2).symm.trans HT.out)
          go_wp2
          go_region
          go_wp2
          go_region
          go_wp2
          go_ret
          exact ⟨ret_int E2.out, HA.out.drew.drew⟩
        · have e3 : t * p.2 < s * q.2 := by omega
          have E2 := Lib.hid ((GT.out e3).symm.trans HT.out)
          go_wp2
          go_region
          go_wp2
          go_region
          go_wp2
          go_ret
          exact ⟨ret_int E2.out, HA.out.drew.drew⟩
    · obtain rfl : k = p.1.length := by omega
      have E2 := Lib.hid (HT.out.symm.trans (cmpN_end C3.out))
      clear hbr
      go_wp2
      go_ret
      exact ⟨ret_int E2.out.symm, HA.out⟩
end Go.Proofs.Ytckpifcdlmfabaa
/- The model's HasRational. -/
namespace Go.Proofs.Ytckpifcdlmfabaa
open Go.RowKit Go.Lib

theorem keep5D {w W : World} {p1 p2 p3 p4 p5 : Addr} {x1 x2 x3 x4 x5 : Value} (h1 : W.cell? p1 = some x1) (h2 : W.cell? p2 = some x2) (h3 : W.cell? p3 = some x3) (h4 : W.cell? p4 = some x4) (h5 : W.cell? p5 = some x5) (hb : Below w.heap.size w W) : W.drew.cell? p1 = some x1 ∧ W.drew.cell? p2 = some x2 ∧ W.drew.cell? p3 = some x3 ∧ W.drew.cell? p4 = some x4 ∧ W.drew.cell? p5 = some x5 ∧ Below w.heap.size w W.drew :=
  ⟨h1, h2, h3, h4, h5, hb.drew⟩
theorem keep5E {w W w1 : World} {p1 p2 p3 p4 p5 : Addr} {x1 x2 x3 x4 x5 : Value} (l1 : p1.block < w.heap.size) (l2 : p2.block < w.heap.size) (l3 : p3.block < w.heap.size) (l4 : p4.block < w.heap.size) (l5 : p5.block < w.heap.size) (h1 : W.cell? p1 = some x1) (h2 : W.cell? p2 = some x2) (h3 : W.cell? p3 = some x3) (h4 : W.cell? p4 = some x4) (h5 : W.cell? p5 = some x5) (hb : Below w.heap.size w W) (h : Below W.heap.size W w1) : w1.cell? p1 = some x1 ∧ w1.cell? p2 = some x2 ∧ w1.cell? p3 = some x3 ∧ w1.cell? p4 = some x4 ∧ w1.cell? p5 = some x5 ∧ Below w.heap.size w w1 :=
  ⟨(h.cell (Nat.lt_of_lt_of_le l1 hb.size)).trans h1, (h.cell (Nat.lt_of_lt_of_le l2 hb.size)).trans h2, (h.cell (Nat.lt_of_lt_of_le l3 hb.size)).trans h3, (h.cell (Nat.lt_of_lt_of_le l4 hb.size)).trans h4, (h.cell (Nat.lt_of_lt_of_le l5 hb.size)).trans h5, hb.trans (h.mono hb.size)⟩
/-- What is known of a half whose numbers meet a point's. -/
theorem half_rat {n : Int} {hs : List Hf} {p : Hf} (h : askQ n hs p = true) (k : Nat) (hk : k < hs.length) : hs[k].1.length = p.1.length ∧ hs[k].1.length ≤ 3 ∧ 1 ≤ hs[k].1.length ∧ Bd hs[k].1 20 ∧ Bd p.1 10000000 ∧ -20000000 ≤ hs[k].2 * p.2 ∧ hs[k].2 * p.2 ≤ 20000000 := by
  obtain ⟨h1, h2, h3⟩ := askQ_t h
  obtain ⟨a1, a2, a3, a4, a5, a6, a7⟩ := halfOk_t ((regOk_t h1).2.2.2 k hk)
  obtain ⟨b1, b2, b3⟩ := fineQ_t h2
  have := mul_bd a6 a7 (show -100000 ≤ p.2 by omega) b2
  exact ⟨by omega, by omega, by omega, a4, b3, by omega, by omega⟩

set_option maxRecDepth 100000 in
set_option maxHeartbeats 1600000 in
theorem s_hasq (r : Rgn) (p : Hf) (v u : Value) (w : World) (hv : Rg w v r) (hu : Hv w u p) :
    Calls Try.prog 93 #[v, u] w (Quiet w (.bool (hasQ r.1 r.2 p))) := by
  obtain ⟨n, hs'⟩ := r
  have HR := Lib.hid hv
  have HP := Lib.hid hu
  obtain ⟨x, rfl, hx⟩ := hv
  obtain ⟨y, rfl, hy⟩ := hu
  simp only at hx ⊢
  have HV := Lib.hid hx
  have HY := Lib.hid hy
  obtain ⟨xa, xc, rfl, xm⟩ := hx.shape
  obtain ⟨ya, yc, rfl, ym, _⟩ := hy.shape
  rw [intVals_len] at ym HY HP ⊢
  unfold maxLen at xm ym
  have B0 := Lib.hid (below2 w (.cells #[.int .i64 n, .slice xa hs'.length xc] 30) (.cells #[.slice ya p.1.length yc, .int .i64 p.2] 63))
  have K := Lib.hid (Bk.pair w #[.int .i64 n, .slice xa hs'.length xc] #[.slice ya p.1.length yc, .int .i64 p.2] 30 63)
  clear hx hy
  by_cases c1 : regOk n hs' = true
  case neg =>
    have C1 := Lib.hid (bool_f c1)
    have E := Lib.hid (hasQ_f (askQ_f1 (p := p) (bool_f c1)))
    clear c1
    go_enter Try.func93, Try.ntmps93
    go_wp2_with fail
    refine (s_isreg (n, hs') _ _ (HR.out.below B0.out)).mono ?_
    rintro e w1 ⟨rfl, hb⟩
    rw [C1.out]
    have B1 := Lib.hid (B0.out.trans (hb.mono B0.out.size))
    clear hb
    go_wp2_with fail
    go_ret
    exact ⟨ret_bool E.out.symm, B1.out⟩
  have C1 := Lib.hid c1
  by_cases c2 : fineQ p = true
  case neg =>
    have C2 := Lib.hid (bool_f c2)
    have E := Lib.hid (hasQ_f (askQ_f2 (n := n) (hs := hs') (bool_f c2)))
    clear c1 c2
    go_enter Try.func93, Try.ntmps93
    go_wp2_with fail
    refine (s_isreg (n, hs') _ _ (HR.out.below B0.out)).mono ?_
    rintro e w1 ⟨rfl, hb⟩
    rw [C1.out]
    have B1 := Lib.hid (B0.out.trans (hb.mono B0.out.size))
    obtain ⟨⟨n0, n1⟩, -⟩ := (K.out.2.below hb).two
    clear hb
    go_wp2_with fail
    refine (s_fine p _ _ (HP.out.below B1.out)).mono ?_
    rintro e w2 ⟨rfl, hb⟩
    rw [C2.out]
    have B2 := Lib.hid (B1.out.trans (hb.mono B1.out.size))
    clear hb n0 n1
    go_wp2_with fail
    go_ret
    exact ⟨ret_bool E.out.symm, B2.out⟩
  have C2 := Lib.hid c2
  by_cases c3 : (p.1.length : Int) = n
  case neg =>
    have E := Lib.hid (hasQ_f (askQ_f3 (hs := hs') c3))
    have hne : ((p.1.length : Int) != n) = true := by rw [bne_iff_ne]; exact c3
    clear c1 c2 c3
    go_enter Try.func93, Try.ntmps93
    go_wp2_with fail
    refine (s_isreg (n, hs') _ _ (HR.out.below B0.out)).mono ?_
    rintro e w1 ⟨rfl, hb⟩
    rw [C1.out]
    have B1 := Lib.hid (B0.out.trans (hb.mono B0.out.size))
    have K1 := Lib.hid (And.intro (K.out.1.below hb) (K.out.2.below hb))
    obtain ⟨⟨n0, n1⟩, -⟩ := K1.out.2.two
    clear hb
    go_wp2_with fail
    refine (s_fine p _ _ (HP.out.below B1.out)).mono ?_
    rintro e w2 ⟨rfl, hb⟩
    rw [C2.out]
    have B2 := Lib.hid (B1.out.trans (hb.mono B1.out.size))
    clear n0 n1
    obtain ⟨⟨m0, m1⟩, -⟩ := (K1.out.1.below hb).two
    obtain ⟨⟨n0, n1⟩, -⟩ := (K1.out.2.below hb).two
    clear hb
    go_wp2_with fail
    go_ret
    exact ⟨ret_bool E.out.symm, B2.out⟩
  have hne : ((p.1.length : Int) != n) = false := by rw [bne_eq_false_iff_eq]; exact c3
  have ASK := Lib.hid (askQ_mk c1 c2 c3)
  have E := Lib.hid (hasQ_t ASK.out)
  have HD := Lib.hid (half_rat ASK.out)
  clear c1 c2 c3
  go_enter Try.func93, Try.ntmps93
  go_wp2_with fail
  refine (s_isreg (n, hs') _ _ (HR.out.below B0.out)).mono ?_
  rintro e w1 ⟨rfl, hb⟩
  rw [C1.out]
  have B1 := Lib.hid (B0.out.trans (hb.mono B0.out.size))
  have K1 := Lib.hid (And.intro (K.out.1.below hb) (K.out.2.below hb))
  obtain ⟨⟨n0, n1⟩, -⟩ := K1.out.2.two
  clear hb
  go_wp2_with fail
  refine (s_fine p _ _ (HP.out.below B1.out)).mono ?_
  rintro e w2 ⟨rfl, hb⟩
  rw [C2.out]
  have B2 := Lib.hid (B1.out.trans (hb.mono B1.out.size))
  have K2 := Lib.hid (And.intro (K1.out.1.below hb) (K1.out.2.below hb))
  clear n0 n1 hb
  obtain ⟨⟨m0, m1⟩, -⟩ := K2.out.1.two
  obtain ⟨⟨n0, n1⟩, -⟩ := K2.out.2.two
  go_wp2
  clear m0 m1 n0 n1
  go_loopw [5] (fun i wr => ∃ k : Nat, k ≤ hs'.length ∧ i = .int .i64 k ∧ hasA (hs'.take k) p = true ∧ Below w2.heap.size w2 wr) (fun i _ => hs'.length - (RowKit.intOf i).toNat)
  case atStart => exact ⟨0, Nat.zero_le _, rfl, rfl, Below.refl _ _⟩
  case round =>
    obtain ⟨k, hk, rfl, ht, hbr⟩ := hrel
    have HB := Lib.hid hbr
    have HT := Lib.hid ht
    have HA := Lib.hid (B2.out.trans (hbr.mono B2.out.size))
    have hb4 := K2.out.1.lt
    have hb5 := K2.out.2.lt
    obtain ⟨⟨-, l1⟩, -⟩ := (K2.out.1.below hbr).two
    obtain ⟨⟨n0, n1⟩, -⟩ := (K2.out.2.below hbr).two
    clear ht
    by_cases hlt : k < hs'.length
    · obtain ⟨b, off, y, rfl, _, hb2, hcell, hcell1, hsx⟩ := HV.out.half k hlt rfl
      rw [← HA.out.cell (p := ⟨b, off + k * 2, none⟩) hb2] at hcell
      rw [← HA.out.cell (p := ⟨b, off + k * 2 + 1, none⟩) hb2] at hcell1
      have HX := Lib.hid hsx
      have i1 : (0 : Int) ≤ (k : Int) := by omega
      have i2 : (k : Int) < (hs'.length : Int) := by omega
      have hb3 : b < w2.heap.size := Nat.lt_of_lt_of_le hb2 B2.out.size
      obtain ⟨d1, d2, d3, d4, d5, d6, d7⟩ := HD.out k hlt
      have D := Lib.hid (And.intro d1 (And.intro d2 (And.intro d4 d5)))
      clear hsx d1 d2 d3 d4 d5
      obtain ⟨q, hq⟩ : ∃ q : Int, dotL hs'[k].1 p.1 = q := ⟨_, rfl⟩
      have HQ := Lib.hid hq
      clear hq
      have hwrap : IntKind.i64.wrap (hs'[k].2 * p.2) = hs'[k].2 * p.2 := IntWalk.i64_in _ (by omega)
      go_wp2_with fail
      go_region_held3 (fun w' => w'.cell? ⟨w.heap.size, 1, none⟩ = some (.slice (some ⟨b, off, none⟩) hs'.length xc) ∧ w'.cell? ⟨b, off + k * 2, none⟩ = some y ∧ w'.cell? ⟨b, off + k * 2 + 1, none⟩ = some (.int .i64 hs'[k].2) ∧ w'.cell? ⟨w.heap.size + 1, 0, none⟩ = some (.slice ya p.1.length yc) ∧ w'.cell? ⟨w.heap.size + 1, 1, none⟩ = some (.int .i64 p.2) ∧ Below w2.heap.size w2 w')
        (first
          | with_reducible exact keep5D l1 hcell hcell1 n0 n1 hbr
          | (go_split_ands; with_reducible exact keep5E hb4 hb3 hb3 hb5 hb5 (by assumption) (by assumption) (by assumption) (by assumption) (by assumption) (by assumption) (by assumption))
          | go_keep)
        (first | (go_at_call 131; refine (s_dot hs'[k].1 p.1 D.out.1 (by have := D.out.2.1; omega) 20 10000000 (by omega) (by omega) D.out.2.2.1 D.out.2.2.2 _ _ _ (HX.out.below HA.out.drew) (HY.out.below HA.out.drew)).mono ?_; rintro e w1 ⟨rfl, hb1⟩; rw [HQ.out]))
      rename_i hH
      have HB1 := Lib.hid hH.2.2.2.2.2
      clear hH hbr l1 hcell hcell1 n0 n1
      have HA1 := Lib.hid (B2.out.trans (HB1.out.mono B2.out.size))
      by_cases hd : q ≤ hs'[k].2 * p.2
      · have hd2 : ¬ hs'[k].2 * p.2 < q := by omega
        go_wp2
        exact ⟨⟨k + 1, by omega, by go_num, hasA_take hlt HT.out (by rw [HQ.out]; exact hd), HB1.out⟩, by simp [RowKit.intOf]; omega⟩
      · have hd2 : hs'[k].2 * p.2 < q := by omega
        go_wp2
        go_ret
        exact ⟨ret_bool (E.out.trans (hasA_not hlt (by rw [HQ.out]; omega))).symm, HA1.out⟩
    · obtain rfl : k = hs'.length := by omega
      have E2 := Lib.hid (E.out.trans (show hasA hs' p = true by have h := HT.out; rw [List.take_length] at h; exact h))
      clear hbr
      go_wp2
      go_ret
      exact ⟨ret_bool E2.out.symm, HA.out⟩
end Go.Proofs.Ytckpifcdlmfabaa
/- Equality of rational points that read alike. -/
namespace Go.Proofs.Ytckpifcdlmfabaa
open Go Go.RowKit Go.Lib Go.ChangeShapes Go.WideShapes Go.Deep Go.Joins

set_option maxRecDepth 100000 in
set_option maxHeartbeats 400000 in
theorem eq_rat (h : Hf) (v u : Value) (w : World) (hv : Hv w v h) (hu : Hv w u h) :
    Calls Try.prog 57 #[v, u] w (Quiet w (.bool true)) := by
  obtain ⟨x, rfl, hx⟩ := hv
  obtain ⟨y, rfl, hy⟩ := hu
  have HX := Lib.hid hx
  have HY := Lib.hid hy
  have B0 := Lib.hid (below2 w (.cells #[x, .int .i64 h.2] 63) (.cells #[y, .int .i64 h.2] 63))
  have K := Lib.hid (Bk.pair w #[x, .int .i64 h.2] #[y, .int .i64 h.2] 63 63)
  clear hx hy
  go_enter Try.func57, Try.ntmps57
  go_wp2_with fail
  refine (eq_int h.1 x y _ (HX.out.below B0.out) (HY.out.below B0.out)).mono ?_
  rintro e w1 ⟨rfl, hb⟩
  have B1 := Lib.hid (B0.out.trans (hb.mono B0.out.size))
  obtain ⟨⟨_, a1⟩, _⟩ := (K.out.1.below hb).two
  obtain ⟨⟨_, b1⟩, _⟩ := (K.out.2.below hb).two
  clear hb
  go_wp2_with fail
  go_ret
  exact ⟨rfl, B1.out⟩
set_option maxRecDepth 100000 in
set_option maxHeartbeats 800000 in
theorem eq_rats (hs : List Hf) (v u : Value) (w : World) (hv : Hs w v hs) (hu : Hs w u hs) :
    Calls Try.prog 16 #[v, u] w (Quiet w (.bool true)) := by
  have HV := Lib.hid hv
  have HU := Lib.hid hu
  obtain ⟨a, c, rfl, hm⟩ := hv.shape
  obtain ⟨a', c', rfl, _⟩ := hu.shape
  unfold maxLen at hm
  clear hv hu
  go_enter Try.func16, Try.ntmps16
  go_wp2
  go_loopw [5] (fun i wr => ∃ k : Nat, k ≤ hs.length ∧ i = .int .i64 k ∧ Below w.heap.size w wr) (fun i _ => hs.length - (RowKit.intOf i).toNat)
  case atStart => exact ⟨0, Nat.zero_le _, rfl, Below.refl _ _⟩
  case round =>
    obtain ⟨k, hk, rfl, hbr⟩ := hrel
    have HB := Lib.hid hbr
    by_cases hlt : k < hs.length
    · obtain ⟨b, off, x, rfl, _, hb2, hcell, hcell1, hsx⟩ := HV.out.half k hlt rfl
      obtain ⟨b', off', y, rfl, _, hb2', hcell', hcell1', hsy⟩ := HU.out.half k hlt rfl
      rw [← hbr.cell (p := ⟨b, off + k * 2, none⟩) hb2] at hcell
      rw [← hbr.cell (p := ⟨b', off' + k * 2, none⟩) hb2'] at hcell'
      rw [← hbr.cell (p := ⟨b, off + k * 2 + 1, none⟩) hb2] at hcell1
      rw [← hbr.cell (p := ⟨b', off' + k * 2 + 1, none⟩) hb2'] at hcell1'
      have HX := Lib.hid hsx
      have HY := Lib.hid hsy
      have i1 : (0 : Int) ≤ (k : Int) := by omega
      have i2 : (k : Int) < (hs.length : Int) := by omega
      clear hsx hsy
      go_wp2
      go_region_held3 (fun w' => w'.cell? ⟨b, off + k * 2, none⟩ = some x ∧ w'.cell? ⟨b, off + k * 2 + 1, none⟩ = some (.int .i64 hs[k].2) ∧ w'.cell? ⟨b', off' + k * 2, none⟩ = some y ∧ w'.cell? ⟨b', off' + k * 2 + 1, none⟩ = some (.int .i64 hs[k].2) ∧ Below w.heap.size w w')
        (first
          | with_reducible exact keepF4 hcell hcell1 hcell' hcell1' hbr
          | (go_split_ands; with_reducible exact keepE4 hb2 hb2 hb2' hb2' (by assumption) (by assumption) (by assumption) (by assumption) (by assumption) (by assumption))
          | go_keep)
        (first | (go_at_call 57; refine (eq_rat hs[k] _ _ _ ⟨x, rfl, HX.out.below HB.out.drew⟩ ⟨y, rfl, HY.out.below HB.out.drew⟩).mono ?_; rintro e w1 ⟨rfl, hb1⟩))
      rename_i hH
      have HB1 := Lib.hid hH.2.2.2.2
      clear hH hbr
      go_wp2
      exact ⟨⟨k + 1, by omega, by go_num, HB1.out⟩, by simp [RowKit.intOf]; omega⟩
    · obtain rfl : k = hs.length := by omega
      clear hbr
      go_wp2
      go_ret
      exact ⟨rfl, HB.out⟩
end Go.Proofs.Ytckpifcdlmfabaa
