/- The program's VerticesOf. -/
import Derived.Test.YtckpifcdlmfabaaMbc
import Derived.Test.YtckpifcdlmfabaaMbg
namespace Go.Proofs.Ytckpifcdlmfabaa
open Go.RowKit Go.Lib

theorem keepV2 {w W : World} {p q : Addr} {x y : Value} (h1 : W.cell? p = some x) (h2 : W.cell? q = some y) (h3 : Below w.heap.size w W) : W.drew.cell? p = some x ∧ W.drew.cell? q = some y ∧ Below w.heap.size w W.drew := ⟨h1, h2, h3.drew⟩
theorem keepW2 {w W w1 : World} {p q : Addr} {x y : Value} (hp : p.block < w.heap.size) (hq : q.block < w.heap.size) (h1 : W.cell? p = some x) (h2 : W.cell? q = some y) (h3 : Below w.heap.size w W) (hb : Below W.heap.size W w1) :
    w1.cell? p = some x ∧ w1.cell? q = some y ∧ Below w.heap.size w w1 :=
  ⟨(hb.cell (Nat.lt_of_lt_of_le hp h3.size)).trans h1, (hb.cell (Nat.lt_of_lt_of_le hq h3.size)).trans h2, h3.trans (hb.mono h3.size)⟩
/-- What the sorting, the compacting of points leave. -/
def SortS : Prop := ∀ (n lo : Nat) (a : Option Addr) (c : Nat) (D : List Hf) (w : World), (∀ q ∈ D, Good n q) → OwH 63 3 lo w.heap.size w (.slice a D.length c) D → lo ≤ w.heap.size → D.length ≤ 256 →
  Calls Try.prog 53 #[.slice a D.length c, .func (.func 54) #[] #[]] w
    (fun e w' => (∃ v, e = .returned v) ∧ (∃ D', (∀ q, q ∈ D' ↔ q ∈ D) ∧ D'.length = D.length ∧ D'.Pairwise (fun p q => ¬ cmpQ q p < 0) ∧ OwH 63 3 lo w'.heap.size w' (.slice a D.length c) D') ∧ Below lo w w')
def CompactS : Prop := ∀ (n lo : Nat) (a : Option Addr) (c : Nat) (D : List Hf) (N : Nat) (_ : N = D.length) (w : World), (∀ q ∈ D, Good n q) → D.Pairwise (fun p q => ¬ cmpQ q p < 0) → OwH 63 3 lo w.heap.size w (.slice a N c) D → lo ≤ w.heap.size → N ≤ 256 →
  Calls Try.prog 55 #[.slice a N c, .func (.func 56) #[] #[]] w
    (fun e w' => (∃ v, e = .returned v ∧ OwH 63 3 lo w'.heap.size w' v (packQ D)) ∧ Below lo w w')

set_option maxRecDepth 100000 in
set_option maxHeartbeats 8000000 in
theorem i_verticesof (HS : SortS) (HK : CompactS) (r : Rgn) (v : Value) (w : World) (hv : Rg w v r) :
    Calls Try.prog 15 #[v] w (MadeRs w (vertQ r.1 r.2)) := by
  have HS := Lib.hid HS
  have HK := Lib.hid HK
  have HR := Lib.hid hv
  obtain ⟨u, rfl, hu⟩ := hv
  obtain ⟨ra, rc, rfl, hrm⟩ := hu.shape
  unfold maxLen at hrm
  have B0 := Lib.hid (below1 w (.cells #[.int .i64 r.1, .slice ra r.2.length rc] 30))
  have K0 := Lib.hid (Bk.new w #[.int .i64 r.1, .slice ra r.2.length rc] 30)
  clear hu
  by_cases c : regOk r.1 r.2 = true
  case neg =>
    have C := Lib.hid (bool_f c)
    have EV := Lib.hid (show vertQ r.1 r.2 = [] by unfold vertQ; rw [if_neg c])
    clear c
    go_enter Try.func15, Try.ntmps15
    go_wp2_with fail
    refine (i_isreg r _ _ (HR.out.below B0.out)).mono ?_
    rintro e w1 ⟨rfl, hb⟩
    rw [C.out]
    have B1 := Lib.hid (B0.out.trans (hb.mono B0.out.size))
    clear hb
    go_wp2
    go_ret
    exact made_rs EV.out ⟨⟨_, rfl, OwH.nil⟩, B1.out⟩
  obtain ⟨n, hn⟩ : ∃ n : Nat, r.1 = n := ⟨r.1.toNat, by have := (regOk_t c).1; omega⟩
  have C := Lib.hid c
  have RC := Lib.hid (regC_of c hn)
  have R8 := Lib.hid (regOk_t c)
  have HN := Lib.hid hn
  have EV := Lib.hid (show vertQ r.1 r.2 = (ptsQ r.1 r.2 (chooseL n r.2)).foldl putQ [] by unfold vertQ; rw [if_pos c, hn]; rfl)
  have HL8 : r.2.length ≤ 8 := (regOk_t c).2.2.1
  obtain ⟨M, hM⟩ : ∃ M, chooseL n r.2 = M := ⟨_, rfl⟩
  rw [hM] at EV
  have HMM := Lib.hid hM
  have ML : M.length ≤ 256 := by
    have h1 := choose_len n r.2
    have h3 : 2 ^ r.2.length ≤ 2 ^ 8 := Nat.pow_le_pow_right (by omega) HL8
    rw [hM] at h1
    omega
  have LP0 := Lib.hid (show ∀ j, (ptsQ r.1 r.2 (M.take j)).length ≤ 256 from fun j => by have := pts_len r.1 r.2 (M.take j); rw [List.length_take] at this; omega)
  clear c hn hM
  go_enter Try.func15, Try.ntmps15
  go_wp2_with fail
  refine (i_isreg r _ _ (HR.out.below B0.out)).mono ?_
  rintro e w1 ⟨rfl, hb⟩
  rw [C.out]
  have B1 := Lib.hid (B0.out.trans (hb.mono B0.out.size))
  have K1 := Lib.hid (K0.out.below hb)
  have hl1 : w.heap.size < w1.heap.size := K1.out.lt
  clear hb
  go_wp2_with fail
  refine wgenv ?_
  intro w2 hw2
  have B2 := Lib.hid (show Below w1.heap.size w1 w2 by rw [hw2]; exact below1 _ _)
  have R2 := Lib.hid (show w2.ownsRow w1.heap.size 63 2 (.slice (some ⟨w1.heap.size, 0, none⟩) 0 0) 0 [] by rw [hw2]; exact World.ownsRow_made w1 #[] 0 (Nat.le_refl _) (by unfold maxLen; omega) rfl)
  have K2 := Lib.hid (K1.out.below B2.out)
  have BW2 := Lib.hid (B1.out.trans (B2.out.mono B1.out.size))
  clear hw2
  obtain ⟨⟨p0, p1⟩, -⟩ := K2.out.two
  have hw2l : w.heap.size < w2.heap.size := K2.out.lt
  have hbr := Below.refl w2.heap.size w2
  go_region_held3 (fun w' => w'.cell? ⟨w.heap.size, 0, none⟩ = some (.int .i64 r.1) ∧ w'.cell? ⟨w.heap.size, 1, none⟩ = some (.slice ra r.2.length rc) ∧ Below w2.heap.size w2 w')
    (first
      | with_reducible exact keepV2 p0 p1 hbr
      | (go_split_ands; with_reducible exact keepW2 hw2l hw2l (by assumption) (by assumption) (by assumption) (by assumption))
      | go_keep)
    (first
      | (go_at_call 50; refine (i_fixed r _ _ (HR.out.below BW2.out.drew) (fun k hk => by have h := halfOk_t (R8.out.2.2.2 k hk); omega) HL8).mono ?_; rintro e w3 ⟨⟨g, cc, rfl, hf⟩, hb3⟩)
      | (go_at_call 49; refine (choices_all n RC.out.2.2.1 r.2 _ _ HN.out _ hf.rd HL8).mono ?_; rintro e w4 ⟨⟨cv, rfl, hc4⟩, hb4⟩; rw [HMM.out] at hc4; obtain ⟨ca, cc4, rfl, hc5, hc6⟩ := hc4.shape))
  rename_i hH
  have hHb := hH.2.2
  have HB4 := Lib.hid hHb
  have B3 := Lib.hid (show Below w2.heap.size w2 w3 from (Below.refl _ _).drew.trans hb3)
  have h23 : w2.heap.size ≤ w3.heap.size := B3.out.size
  have h34 : w3.heap.size ≤ w4.heap.size := hb4.size
  have hw12 : w1.heap.size < w2.heap.size := (R2.out.lt _ rfl).2
  have HC4 := Lib.hid hc4
  have R4 := Lib.hid (owns2_below R2.out HB4.out)
  have K4 := Lib.hid (K2.out.below HB4.out)
  have BW4 := Lib.hid (BW2.out.trans (HB4.out.mono BW2.out.size))
  have MC := Lib.hid (show ∀ (j : Nat) (hj : j < M.length), ChOk n M[j] from fun j hj => by
    have h1 := choose_sub n r.2 M[j] (by rw [HMM.out]; exact List.getElem_mem hj)
    exact RC.out.ch h1.1 h1.2)
  unfold maxLen at hc6
  clear hH hHb hb3 hb4 hc4 hf p0 p1 hbr
  go_wp2_with fail
  go_loopw [18, 3] (fun i V wr => ∃ j : Nat, j ≤ M.length ∧ i = .int .i64 j ∧ OwH 63 3 w1.heap.size wr.heap.size wr V (ptsQ r.1 r.2 (M.take j)) ∧ (∀ q, V.ownBlock = some q → q = w1.heap.size ∨ w4.heap.size ≤ q) ∧ w4.grownBy wr (some w1.heap.size)) (fun i _ _ => M.length - (RowKit.intOf i).toNat)
  case atStart => exact ⟨0, Nat.zero_le _, rfl, owh_empty R4.out (Nat.le_refl _) (by omega), fun q hq => .inl (by simp [Value.ownBlock] at hq; omega), grown_below (Below.refl _ _)⟩
  case round =>
    obtain ⟨j, hj, rfl, ho, hv, hg⟩ := hrel
    rename World => wr
    have HO := Lib.hid ho
    have HV := Lib.hid hv
    have HG := Lib.hid hg
    have hz : w4.heap.size ≤ wr.heap.size := hg.size
    have KR := Lib.hid (K4.out.grown hg (fun e => by have := Option.some.inj e; omega))
    have HCr := Lib.hid (HC4.out.same (fun q h1 h2 => hg.block q h2 (fun e => by have := Option.some.inj e; omega)))
    have BR := Lib.hid (BW4.out.grown hg (by omega) (fun q hq => by have := Option.some.inj hq; omega))
    clear ho hv hg
    by_cases hjl : j < M.length
    · obtain ⟨cb, cu, rfl, cb1, cb2, cb3, ccell, co⟩ := HCr.out.at j hjl
      have CO := Lib.hid (MC.out j hjl)
      obtain ⟨g5, c5, e5⟩ := Go.Joins.ownsRow_form co.1 (by have := CO.out.1; have := RC.out.2.1; omega)
      subst e5
      obtain ⟨ch, hch⟩ : ∃ ch, M[j] = ch := ⟨_, rfl⟩
      rw [hch] at co CO ccell
      have HCH := Lib.hid hch
      have HF := Lib.hid co
      have i1 : (0 : Int) ≤ (j : Int) := by omega
      have i2 : (j : Int) < (M.length : Int) := by omega
      have i7 : (M.length : Int) ≤ (cc4 : Int) := by omega
      obtain ⟨⟨l0, l1⟩, -⟩ := KR.out.two
      obtain ⟨⟨q, ok⟩, hR⟩ : ∃ R, solveQ ch = R := ⟨_, rfl⟩
      have ES := Lib.hid hR
      have PS := Lib.hid (show ptsQ r.1 r.2 (M.take (j + 1)) = ptsQ r.1 r.2 (M.take j) ++ (keepQ r.1 r.2 (q, ok)).toList by rw [pts_snoc hjl, hch, hR])
      have LP := Lib.hid (show (ptsQ r.1 r.2 (M.take j)).length ≤ 256 by have := pts_len r.1 r.2 (M.take j); rw [List.length_take] at this; omega)
      obtain ⟨D, hD⟩ : ∃ D, ptsQ r.1 r.2 (M.take j) = D := ⟨_, rfl⟩
      rw [hD] at HO PS LP
      clear co hch hR hD
      go_wp2_with fail
      refine (i_meeting n ch RC.out.2.1 RC.out.2.2.1 CO.out g5 c5 _ _ _ HF.out).mono ?_
      rintro e w5 ⟨⟨pv, rfl, hpo⟩, hb5⟩
      rw [ES.out] at hpo ⊢
      obtain ⟨y, rfl, hy⟩ := hpo
      obtain ⟨ya, yc, rfl, _⟩ := hy.shape1
      have HY := Lib.hid hy
      have B5 := Lib.hid hb5
      have K5 := Lib.hid (KR.out.below hb5)
      have hz5 : wr.heap.size ≤ w5.heap.size := hb5.size
      have hk5 : w.heap.size < w5.heap.size := K5.out.lt
      clear hy hb5 l0 l1 ccell
      cases ok
      case false =>
        have PE := Lib.hid (show ptsQ r.1 r.2 (M.take (j + 1)) = D by rw [PS.out]; unfold keepQ; simp)
        have BX := Lib.hid (B5.out.trans ((below1 w5 (.cells #[.slice ya (intVals q.1).length yc, .int .i64 q.2] 63)).mono B5.out.size))
        go_wp2
        exact ⟨⟨j + 1, by omega, by go_num, by rw [PE.out]; exact (HO.out.below BX.out).mono (Nat.le_refl _) BX.out.size, HV.out, grown_trans (r2 := none) HG.out (grown_below BX.out) (fun q hq => by cases hq)⟩, by simp [RowKit.intOf]; omega⟩
      case true =>
        have BX := Lib.hid (B5.out.trans ((below1 w5 (.cells #[.slice ya (intVals q.1).length yc, .int .i64 q.2] 63)).mono B5.out.size))
        have KX := Lib.hid (K5.out.below (below1 w5 (.cells #[.slice ya (intVals q.1).length yc, .int .i64 q.2] 63)))
        have HYX := Lib.hid (HY.out.below (below1 w5 (.cells #[.slice ya (intVals q.1).length yc, .int .i64 q.2] 63)))
        have QX := Lib.hid (Bk.new w5 #[.slice ya (intVals q.1).length yc, .int .i64 q.2] 63)
        have BWX := Lib.hid (BR.out.trans (BX.out.mono BR.out.size))
        obtain ⟨⟨l0, l1⟩, -⟩ := K5.out.two
        go_wp2_with fail
        refine (i_hasq r q _ _ _ (HR.out.below BWX.out) ⟨_, rfl, HYX.out.sl⟩).mono ?_
        rintro e w6 ⟨rfl, hb6⟩
        have B6 := Lib.hid (BX.out.trans (hb6.mono BX.out.size))
        have Q6 := Lib.hid (QX.out.below hb6)
        have HY6 := Lib.hid (HYX.out.below hb6)
        have hz6 : w5.heap.size < w6.heap.size := Q6.out.lt
        clear hb6 l0 l1
        by_cases hh : hasQ r.1 r.2 q = true
        · have PE := Lib.hid (show ptsQ r.1 r.2 (M.take (j + 1)) = D ++ [q] by rw [PS.out]; unfold keepQ; rw [if_pos ⟨rfl, hh⟩]; rfl)
          obtain ⟨⟨m0, m1⟩, -⟩ := Q6.out.two
          go_wp2_with (at_builtin; go_must (refine list_app_rat rfl _ _ rfl w1.heap.size wr.heap.size u3 _ D q rfl ((HO.out.below B6.out).below (below1 w6 _)) (((HY6.out.below (below1 w6 _)).mono (Nat.le_refl _) (by rw [World.size_alloc]; omega))) w6.heap.size rfl (heap_alloc_new w6 _) (by have := LP.out; omega) (by omega) (by rw [World.size_alloc]; omega) ?_; intro g7 c7 w7 ho7 hb7 hat7 hg7))
          have hv7 : ∀ q', Value.ownBlock (Value.slice (some ⟨g7, 0, none⟩) (D.length + 1) c7) = some q' → q' = w1.heap.size ∨ w4.heap.size ≤ q' := fun q' hq => by
            have e : g7 = q' := by simpa [Value.ownBlock] using hq
            rcases hat7 with h | h
            · exact HV.out q' (by rw [h, e])
            · rw [World.size_alloc] at h
              exact .inr (by omega)
          have hg8 : w4.grownBy w7 (some w1.heap.size) := grown_trans (grown_trans (r2 := none) HG.out (grown_below (B6.out.trans ((below1 w6 (.cells #[.slice ya (intVals q.1).length yc, .int .i64 q.2] 63)).mono B6.out.size))) (fun q hq => by cases hq)) hg7 (fun q hq => by
            rcases HV.out q hq with h | h
            · exact .inl (by rw [h])
            · exact .inr h)
          rw [← PE.out] at ho7
          have E7 := Lib.hid (And.intro ho7 (And.intro hv7 hg8))
          clear ho7 hb7 hat7 hg7 hv7 hg8 m0 m1
          go_wp2
          exact ⟨⟨j + 1, by omega, by go_num, E7.out.1, E7.out.2.1, E7.out.2.2⟩, by simp [RowKit.intOf]; omega⟩
        · have PE := Lib.hid (show ptsQ r.1 r.2 (M.take (j + 1)) = D by rw [PS.out]; unfold keepQ; rw [if_neg (fun c => hh c.2)]; simp)
          go_wp2
          exact ⟨⟨j + 1, by omega, by go_num, by rw [PE.out]; exact (HO.out.below B6.out).mono (Nat.le_refl _) B6.out.size, HV.out, grown_trans (r2 := none) HG.out (grown_below B6.out) (fun q hq => by cases hq)⟩, by simp [RowKit.intOf]; omega⟩
    · obtain rfl : j = M.length := by omega
      obtain ⟨D, hD⟩ : ∃ D, ptsQ r.1 r.2 M = D := ⟨_, rfl⟩
      have HO9 := Lib.hid (show OwH 63 3 w1.heap.size wr.heap.size wr u3 D by have h := HO.out; rw [List.take_length, hD] at h; exact h)
      have GD := Lib.hid (show ∀ q ∈ D, Good r.1.toNat q by rw [← hD]; exact pts_good)
      have EF := Lib.hid (show vertQ r.1 r.2 = D.foldl putQ [] by rw [EV.out, hD])
      obtain ⟨va, vc, rfl, _⟩ := HO9.out.hs.shape
      have LD := Lib.hid (show D.length ≤ 256 by have h := LP0.out M.length; rw [List.take_length, hD] at h; exact h)
      clear hD
      go_wp2_with fail
      refine (HS.out r.1.toNat w1.heap.size va vc D wr GD.out HO9.out (by omega) LD.out).mono ?_
      rintro e w5 ⟨⟨v5, rfl⟩, ⟨D5, d1, d2, d3, d4⟩, hb5⟩
      have O5 := Lib.hid d4
      have S5 := Lib.hid (show D5.Pairwise (fun p q => ¬ cmpQ q p < 0) from d3.imp (fun h => by omega))
      have M5 := Lib.hid d1
      have L5 := Lib.hid d2
      have B5 := Lib.hid hb5
      clear d1 d2 d3 d4 hb5
      go_wp2_with fail
      refine (HK.out r.1.toNat w1.heap.size va vc D5 D.length L5.out.symm w5 (fun q hq => GD.out q ((M5.out q).1 hq)) (S5.out.imp (fun h => by omega)) O5.out (by have := B5.out.size; omega) (by have := LD.out; have := L5.out; omega)).mono ?_
      rintro e w6 ⟨⟨v6, rfl, h6⟩, hb6⟩
      rw [pack_put GD.out M5.out (S5.out.imp (fun h => by omega))] at h6
      have O6 := Lib.hid h6
      have B6 := Lib.hid hb6
      clear h6 hb6
      go_wp2
      go_ret
      have hw := B1.out.size
      exact made_rs EF.out ⟨⟨_, rfl, O6.out.mono hw (Nat.le_refl _)⟩, (BR.out.trans (B5.out.mono hw)).trans (B6.out.mono hw)⟩
end Go.Proofs.Ytckpifcdlmfabaa
