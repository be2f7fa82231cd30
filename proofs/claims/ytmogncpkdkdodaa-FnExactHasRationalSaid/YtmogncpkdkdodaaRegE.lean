/- Equality of lists, halves and regions: the model's and the program's. -/
import Derived.Test.YtmogncpkdkdodaaRegI2
namespace Go.Proofs.Ytmogncpkdkdodaa
open Go.RowKit Go.Lib

theorem take_all_eq {α : Type} {u v : List α} {k : Nat} (hl : u.length = v.length) (hk : k = u.length) (h : u.take k = v.take k) : u = v := by
  subst hk
  rw [List.take_length, hl, List.take_length] at h
  exact h
theorem take_eq_step {α : Type} {u v : List α} {k : Nat} (h1 : k < u.length) (h2 : k < v.length) (h : u.take k = v.take k) (he : u[k] = v[k]) : u.take (k + 1) = v.take (k + 1) := by
  rw [List.take_succ_eq_append_getElem h1, List.take_succ_eq_append_getElem h2, h, he]
theorem get_ne {α : Type} {u v : List α} {k : Nat} (h1 : k < u.length) (h2 : k < v.length) (he : ¬ u[k] = v[k]) : ¬ u = v := by
  intro e; subst e; exact he rfl

set_option maxRecDepth 100000 in
set_option maxHeartbeats 800000 in
theorem s_same (u v : List Int) (a b : Value) (w : World) (ha : Sl w a (intVals u)) (hb : Sl w b (intVals v)) :
    Calls Try.prog 106 #[a, b] w (Quiet w (.bool (decide (u = v)))) := by
  obtain ⟨a, c, rfl, hm, ha⟩ := ha.shape
  obtain ⟨b, d, rfl, _, hb⟩ := hb.shape
  rw [intVals_len] at ha hb hm
  rw [intVals_len, intVals_len]
  unfold maxLen at hm
  have HA := Lib.hid ha
  have HB0 := Lib.hid hb
  clear ha hb
  by_cases hl : u.length = v.length
  · have HL := Lib.hid hl
    rw [← hl] at HB0 ⊢
    clear hl
    go_enter Try.func106, Try.ntmps106
    go_wp2
    go_loopw [5] (fun i wr => ∃ k : Nat, k ≤ u.length ∧ i = .int .i64 k ∧ u.take k = v.take k ∧ Below w.heap.size w wr) (fun i _ => u.length - (RowKit.intOf i).toNat)
    case atStart => exact ⟨0, Nat.zero_le _, rfl, rfl, Below.refl _ _⟩
    case round =>
      obtain ⟨k, hk, rfl, ht, hbr⟩ := hrel
      have HB := Lib.hid hbr
      have HT := Lib.hid ht
      clear ht
      by_cases hlt : k < u.length
      · have hlt' : k < v.length := by have := HL.out; omega
        obtain ⟨b1, o1, rfl, hc1, hlt1, hx1⟩ := HA.out (by omega)
        obtain ⟨b2, o2, rfl, hc2, hlt2, hx2⟩ := HB0.out (by omega)
        have hcell1 := hx1 k _ (intVals_get u k hlt)
        have hcell2 := hx2 k _ (intVals_get v k hlt')
        rw [← hbr.cell (p := ⟨b1, o1 + k, none⟩) hlt1] at hcell1
        rw [← hbr.cell (p := ⟨b2, o2 + k, none⟩) hlt2] at hcell2
        clear hx1 hx2 hbr
        have i1 : (0 : Int) ≤ (k : Int) := by omega
        have i2 : (k : Int) < (u.length : Int) := by omega
        by_cases he : u[k] = v[k]
        · have HE := Lib.hid (take_eq_step hlt hlt' HT.out he)
          rw [← he] at hcell2
          clear he
          go_wp2
          go_quiet (fail)
          go_wp2
          exact ⟨⟨k + 1, by omega, by go_num, HE.out, below_drewN' HB.out _⟩, by simp [RowKit.intOf]; omega⟩
        · have HE := Lib.hid (get_ne hlt hlt' he)
          have hne : (u[k] == v[k]) = false := by rw [beq_eq_false_iff_ne]; exact he
          have hne2 : (u[k] != v[k]) = true := by rw [bne_iff_ne]; exact he
          go_wp2
          go_quiet (fail)
          go_wp2
          go_ret
          exact ⟨ret_bool (decide_eq_false HE.out).symm, below_drewN' HB.out _⟩
      · obtain rfl : k = u.length := by omega
        have HE := Lib.hid (take_all_eq HL.out rfl HT.out)
        clear hbr
        go_wp2
        go_ret
        exact ⟨ret_bool (decide_eq_true HE.out).symm, HB.out⟩
  · have HE := Lib.hid (show ¬ u = v from fun e => hl (by rw [e]))
    have hne : ((u.length : Int) == (v.length : Int)) = false := by rw [beq_eq_false_iff_ne]; omega
    have hne2 : ((u.length : Int) != (v.length : Int)) = true := by rw [bne_iff_ne]; omega
    have hne3 : (u.length == v.length) = false := by rw [beq_eq_false_iff_ne]; exact hl
    have hne4 : (u.length != v.length) = true := by rw [bne_iff_ne]; exact hl
    go_enter Try.func106, Try.ntmps106
    go_wp2
    go_ret
    exact ⟨ret_bool (decide_eq_false HE.out).symm, Below.refl _ _⟩

theorem hf_f1 {h k : Hf} (c : ¬ h.1 = k.1) : decide (h = k) = false := decide_eq_false fun e => c (by rw [e])
theorem hf_e {h k : Hf} (c : h.1 = k.1) : decide (h = k) = (h.2 == k.2) := by
  obtain ⟨a, x⟩ := h
  obtain ⟨b, y⟩ := k
  simp only at c
  subst c
  by_cases he : x = y
  · subst he; simp
  · simp [he]

set_option maxRecDepth 100000 in
set_option maxHeartbeats 400000 in
theorem s_samehalf (h k : Hf) (v u : Value) (w : World) (hv : Hv w v h) (hu : Hv w u k) :
    Calls Try.prog 70 #[v, u] w (Quiet w (.bool (decide (h = k)))) := by
  obtain ⟨x, rfl, hx⟩ := hv
  obtain ⟨y, rfl, hy⟩ := hu
  have HX := Lib.hid hx
  have HY := Lib.hid hy
  have B0 := Lib.hid (below2 w (.cells #[x, .int .i64 h.2] 48) (.cells #[y, .int .i64 k.2] 48))
  have K := Lib.hid (Bk.pair w #[x, .int .i64 h.2] #[y, .int .i64 k.2] 48 48)
  clear hx hy
  by_cases c : h.1 = k.1
  · have C := Lib.hid (show decide (h.1 = k.1) = true from decide_eq_true c)
    have E := Lib.hid (hf_e c)
    clear c
    go_enter Try.func70, Try.ntmps70
    go_wp2_with fail
    refine (s_same h.1 k.1 x y _ (HX.out.below B0.out) (HY.out.below B0.out)).mono ?_
    rintro e w1 ⟨rfl, hb⟩
    rw [C.out]
    have B1 := Lib.hid (B0.out.trans (hb.mono B0.out.size))
    obtain ⟨⟨-, a1⟩, -⟩ := (K.out.1.below hb).two
    obtain ⟨⟨-, b1⟩, -⟩ := (K.out.2.below hb).two
    clear hb
    go_wp2_with fail
    go_ret
    exact ⟨ret_bool E.out.symm, B1.out⟩
  · have C := Lib.hid (show decide (h.1 = k.1) = false from decide_eq_false c)
    have E := Lib.hid (hf_f1 c)
    clear c
    go_enter Try.func70, Try.ntmps70
    go_wp2_with fail
    refine (s_same h.1 k.1 x y _ (HX.out.below B0.out) (HY.out.below B0.out)).mono ?_
    rintro e w1 ⟨rfl, hb⟩
    rw [C.out]
    have B1 := Lib.hid (B0.out.trans (hb.mono B0.out.size))
    clear hb
    go_wp2_with fail
    go_ret
    exact ⟨ret_bool E.out.symm, B1.out⟩

theorem eqR_f1 {r s : Rgn} (h : ¬ r.1 = s.1) : eqR r.1 r.2 s.1 s.2 = false := decide_eq_false fun e => h e.1
theorem eqR_f2 {r s : Rgn} (h : ¬ r.2 = s.2) : eqR r.1 r.2 s.1 s.2 = false := decide_eq_false fun e => h e.2
theorem eqR_t {r s : Rgn} (h : r.1 = s.1) (k : r.2 = s.2) : eqR r.1 r.2 s.1 s.2 = true := decide_eq_true ⟨h, k⟩

theorem keepF6 {w W : World} {p q r s p' q' : Addr} {x y z t x' y' : Value} (h1 : W.cell? p = some x) (h2 : W.cell? q = some y) (h4 : W.cell? r = some z) (h5 : W.cell? s = some t) (h6 : W.cell? p' = some x') (h7 : W.cell? q' = some y') (h3 : Below w.heap.size w W) :
    W.drew.cell? p = some x ∧ W.drew.cell? q = some y ∧ W.drew.cell? r = some z ∧ W.drew.cell? s = some t ∧ W.drew.cell? p' = some x' ∧ W.drew.cell? q' = some y' ∧ Below w.heap.size w W.drew := ⟨h1, h2, h4, h5, h6, h7, h3.drew⟩
theorem keepE6 {w W w1 : World} {p q r s p' q' : Addr} {x y z t x' y' : Value} (hp : p.block < w.heap.size) (hq : q.block < w.heap.size) (hr : r.block < w.heap.size) (hs : s.block < w.heap.size) (hp' : p'.block < w.heap.size) (hq' : q'.block < w.heap.size)
    (h1 : W.cell? p = some x) (h2 : W.cell? q = some y) (h4 : W.cell? r = some z) (h5 : W.cell? s = some t) (h6 : W.cell? p' = some x') (h7 : W.cell? q' = some y') (h3 : Below w.heap.size w W) (hb : Below W.heap.size W w1) :
    w1.cell? p = some x ∧ w1.cell? q = some y ∧ w1.cell? r = some z ∧ w1.cell? s = some t ∧ w1.cell? p' = some x' ∧ w1.cell? q' = some y' ∧ Below w.heap.size w w1 :=
  ⟨(hb.cell (Nat.lt_of_lt_of_le hp h3.size)).trans h1, (hb.cell (Nat.lt_of_lt_of_le hq h3.size)).trans h2, (hb.cell (Nat.lt_of_lt_of_le hr h3.size)).trans h4, (hb.cell (Nat.lt_of_lt_of_le hs h3.size)).trans h5, (hb.cell (Nat.lt_of_lt_of_le hp' h3.size)).trans h6, (hb.cell (Nat.lt_of_lt_of_le hq' h3.size)).trans h7, h3.trans (hb.mono h3.size)⟩

set_option maxRecDepth 100000 in
set_option maxHeartbeats 1600000 in
theorem s_eqreg (r s : Rgn) (v u : Value) (w : World) (hv : Rg w v r) (hu : Rg w u s) :
    Calls Try.prog 24 #[v, u] w (Quiet w (.bool (eqR r.1 r.2 s.1 s.2))) := by
  obtain ⟨x, rfl, hx⟩ := hv
  obtain ⟨y, rfl, hy⟩ := hu
  have HX := Lib.hid hx
  have HY := Lib.hid hy
  obtain ⟨a, c, rfl, hm⟩ := hx.shape
  obtain ⟨b, d, rfl, _⟩ := hy.shape
  unfold maxLen at hm
  have B0 := Lib.hid (below2 w (.cells #[.int .i64 r.1, .slice a r.2.length c] 26) (.cells #[.int .i64 s.1, .slice b s.2.length d] 26))
  have K := Lib.hid (Bk.pair w #[.int .i64 r.1, .slice a r.2.length c] #[.int .i64 s.1, .slice b s.2.length d] 26 26)
  clear hx hy
  by_cases hd : r.1 = s.1
  case neg =>
    have E := Lib.hid (eqR_f1 hd)
    have hne : (r.1 == s.1) = false := by rw [beq_eq_false_iff_ne]; exact hd
    have hne2 : (r.1 != s.1) = true := by rw [bne_iff_ne]; exact hd
    clear hd
    go_enter Try.func24, Try.ntmps24
    go_wp2_with fail
    go_ret
    exact ⟨ret_bool E.out.symm, B0.out⟩
  by_cases hl : r.2.length = s.2.length
  case neg =>
    have E := Lib.hid (eqR_f2 (r := r) (s := s) (fun e => hl (by rw [e])))
    have hne : (r.1 == s.1) = true := by rw [beq_iff_eq]; exact hd
    have hne2 : (r.1 != s.1) = false := by rw [hd]; simp
    have hne3 : ((r.2.length : Int) == (s.2.length : Int)) = false := by rw [beq_eq_false_iff_ne]; omega
    have hne4 : ((r.2.length : Int) != (s.2.length : Int)) = true := by rw [bne_iff_ne]; omega
    have hne5 : (r.2.length == s.2.length) = false := by rw [beq_eq_false_iff_ne]; exact hl
    have hne6 : (r.2.length != s.2.length) = true := by rw [bne_iff_ne]; exact hl
    clear hd hl
    go_enter Try.func24, Try.ntmps24
    go_wp2_with fail
    go_ret
    exact ⟨ret_bool E.out.symm, B0.out⟩
  obtain ⟨m, ks⟩ := s
  obtain ⟨n, hs⟩ := r
  simp only at *
  subst hd
  have HL := Lib.hid hl
  rw [← hl] at K HY B0 ⊢
  clear hl
  go_enter Try.func24, Try.ntmps24
  go_wp2
  go_loopw [5] (fun i wr => ∃ k : Nat, k ≤ hs.length ∧ i = .int .i64 k ∧ hs.take k = ks.take k ∧ Below ((w.alloc (.cells #[.int .i64 n, .slice a hs.length c] 26)).alloc (.cells #[.int .i64 n, .slice b hs.length d] 26)).heap.size ((w.alloc (.cells #[.int .i64 n, .slice a hs.length c] 26)).alloc (.cells #[.int .i64 n, .slice b hs.length d] 26)) wr) (fun i _ => hs.length - (RowKit.intOf i).toNat)
  case atStart => exact ⟨0, Nat.zero_le _, rfl, rfl, Below.refl _ _⟩
  case round =>
    obtain ⟨k, hk, rfl, ht, hbr⟩ := hrel
    have HT := Lib.hid ht
    have HA := Lib.hid (B0.out.trans (hbr.mono B0.out.size))
    obtain ⟨⟨-, l1⟩, -⟩ := (K.out.1.below hbr).two
    obtain ⟨⟨-, m1⟩, -⟩ := (K.out.2.below hbr).two
    clear ht
    by_cases hlt : k < hs.length
    · have hlt' : k < ks.length := by have := HL.out; omega
      have HY1 := HY.out
      have HY2 : Hs w (.slice b ks.length d) ks := by rw [← HL.out]; exact HY1
      obtain ⟨b1, o1, x, rfl, _, hb2, hcell, hcell1, hsx⟩ := HX.out.half k hlt rfl
      obtain ⟨b2, o2, y, rfl, _, hb2', hcell', hcell1', hsy⟩ := HY2.half k hlt' rfl
      rw [← HA.out.cell (p := ⟨b1, o1 + k * 2, none⟩) hb2] at hcell
      rw [← HA.out.cell (p := ⟨b1, o1 + k * 2 + 1, none⟩) hb2] at hcell1
      rw [← HA.out.cell (p := ⟨b2, o2 + k * 2, none⟩) hb2'] at hcell'
      rw [← HA.out.cell (p := ⟨b2, o2 + k * 2 + 1, none⟩) hb2'] at hcell1'
      have QX := Lib.hid hsx
      have QY := Lib.hid hsy
      have i1 : (0 : Int) ≤ (k : Int) := by omega
      have i2 : (k : Int) < (hs.length : Int) := by omega
      generalize hW : ((w.alloc (.cells #[.int .i64 n, .slice (some ⟨b1, o1, none⟩) hs.length c] 26)).alloc (.cells #[.int .i64 n, .slice (some ⟨b2, o2, none⟩) hs.length d] 26)) = W at *
      have hs0 : w.heap.size + 2 = W.heap.size := by rw [← hW]; simp
      have hb3 : b1 < W.heap.size := by omega
      have hb4 : b2 < W.heap.size := by omega
      have hb5 : w.heap.size < W.heap.size := by omega
      have hb6 : w.heap.size + 1 < W.heap.size := by omega
      clear hsx hsy HY1 HY2 hW
      obtain ⟨q, hq⟩ : ∃ q : Bool, decide (hs[k] = ks[k]) = q := ⟨_, rfl⟩
      have HQ := Lib.hid hq
      clear hq
      go_wp2
      go_region_held3 (fun w' => w'.cell? ⟨w.heap.size, 1, none⟩ = some (.slice (some ⟨b1, o1, none⟩) hs.length c) ∧ w'.cell? ⟨w.heap.size + 1, 1, none⟩ = some (.slice (some ⟨b2, o2, none⟩) hs.length d) ∧ w'.cell? ⟨b1, o1 + k * 2, none⟩ = some x ∧ w'.cell? ⟨b1, o1 + k * 2 + 1, none⟩ = some (.int .i64 hs[k].2) ∧ w'.cell? ⟨b2, o2 + k * 2, none⟩ = some y ∧ w'.cell? ⟨b2, o2 + k * 2 + 1, none⟩ = some (.int .i64 ks[k].2) ∧ Below W.heap.size W w')
        (first
          | with_reducible exact keepF6 l1 m1 hcell hcell1 hcell' hcell1' hbr
          | (go_split_ands; with_reducible exact keepE6 hb5 hb6 hb3 hb3 hb4 hb4 (by assumption) (by assumption) (by assumption) (by assumption) (by assumption) (by assumption) (by assumption) (by assumption))
          | go_keep)
        (first | (go_at_call 70; refine (s_samehalf hs[k] ks[k] _ _ _ ⟨x, rfl, QX.out.below HA.out.drew⟩ ⟨y, rfl, QY.out.below HA.out.drew⟩).mono ?_; rintro e w1 ⟨rfl, hb1⟩; rw [HQ.out]))
      rename_i hH
      have HB1 := Lib.hid hH.2.2.2.2.2.2
      clear hH hbr l1 m1 hcell hcell1 hcell' hcell1'
      have HA1 := Lib.hid (B0.out.trans (HB1.out.mono B0.out.size))
      cases q with
      | true =>
        go_wp2
        exact ⟨⟨k + 1, by omega, by go_num, take_eq_step hlt hlt' HT.out (of_decide_eq_true HQ.out), HB1.out⟩, by simp [RowKit.intOf]; omega⟩
      | false =>
        go_wp2
        go_ret
        exact ⟨ret_bool (eqR_f2 (r := (n, hs)) (s := (n, ks)) (get_ne hlt hlt' (of_decide_eq_false HQ.out))).symm, HA1.out⟩
    · obtain rfl : k = hs.length := by omega
      have E := Lib.hid (eqR_t (r := (n, hs)) (s := (n, ks)) rfl (take_all_eq HL.out rfl HT.out))
      clear hbr
      go_wp2
      go_ret
      exact ⟨ret_bool E.out.symm, HA.out⟩
end Go.Proofs.Ytmogncpkdkdodaa
