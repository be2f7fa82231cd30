/- The model's l6Put: a point is put among the points. -/
import Derived.Test.YtckpifcdlmfabaaMao
import Derived.Test.YtckpifcdlmfabaaMbb
import Derived.Test.YtckpifcdlmfabaaMaw
import Derived.Deep.Cut
import Derived.Test.YtckpifcdlmfabaaOrd
namespace Go.Proofs.Ytckpifcdlmfabaa
open Go.RowKit Go.Lib

/-- What l6Put leaves. -/
def PutH (base : Nat) (w : World) (lv : Value) (l : List Hf) (e : Ending) (w' : World) : Prop := (∃ v, e = .returned v ∧ OwH 63 3 base w'.heap.size w' v l ∧ ∀ b, v.ownBlock = some b → lv.ownBlock = some b ∨ w.heap.size ≤ b) ∧ w.grownBy w' lv.ownBlock
theorem grown_below {w w' : World} {r : Option Nat} (h : Below w.heap.size w w') : w.grownBy w' r := ⟨h.os, h.tape, h.output, h.size, fun q hq _ => h.block q hq⟩
theorem put_mk {base : Nat} {w : World} {lv : Value} {l l' : List Hf} {e : Ending} {w' : World} (h : l' = l) (g : PutH base w lv l e w') : PutH base w lv l' e w' := by subst h; exact g
theorem downQ_lt {l : List Hf} {p : Hf} {k j : Nat} (hj : j + 1 = k) (hl : j < l.length) (h : cmpQ p l[j] < 0) : downQ l p k = downQ l p j := by
  subst hj
  rw [downQ, getD_mem hl, if_pos h]
theorem downQ_ge {l : List Hf} {p : Hf} {k j : Nat} (hj : j + 1 = k) (hl : j < l.length) (h : ¬ cmpQ p l[j] < 0) : downQ l p k = k := by
  subst hj
  rw [downQ, getD_mem hl, if_neg h]
theorem putQ_has {l : List Hf} {p : Hf} {k j : Nat} (h : downQ l p l.length = k) (hj : j + 1 = k) (hl : j < l.length) (h0 : cmpQ p l[j] = 0) : putQ l p = l := by
  unfold putQ
  simp only
  rw [h, if_pos ⟨by omega, by rw [show k - 1 = j by omega, getD_mem hl]; exact h0⟩]
theorem putQ_new {l : List Hf} {p : Hf} {k j : Nat} (h : downQ l p l.length = k) (hj : j + 1 = k) (hl : j < l.length) (h0 : ¬ cmpQ p l[j] = 0) : putQ l p = l.take k ++ p :: l.drop k := by
  unfold putQ
  simp only
  rw [h, if_neg (fun c => by rw [show k - 1 = j by omega, getD_mem hl] at c; exact h0 c.2)]
theorem putQ_zero {l : List Hf} {p : Hf} {k : Nat} (h : downQ l p l.length = k) (h0 : ¬ 0 < k) : putQ l p = l.take k ++ p :: l.drop k := by
  unfold putQ
  simp only
  rw [h, if_neg (fun c => h0 c.1)]

set_option maxRecDepth 100000 in
set_option maxHeartbeats 4000000 in
theorem s_put (l : List Hf) (p : Hf) (v pv : Value) (base m : Nat) (w : World) (ho : OwH 63 3 base m w v l) (hp : OwHv m w.heap.size w pv p) (hbm : base ≤ m) (hm : m ≤ w.heap.size) (hn : l.length ≤ 1048576) :
    Calls Try.prog 94 #[v, pv] w (PutH base w v (putQ l p)) := by
  have HP := Lib.hid hp.hv
  have HL := Lib.hid ho.hs
  have HO := Lib.hid ho
  obtain ⟨u, rfl, hu⟩ := hp
  obtain ⟨va, vc, rfl, hml⟩ := ho.hs.shape
  have HU := Lib.hid hu
  unfold maxLen at hml
  have B0 := Lib.hid (below1 w (.cells #[u, .int .i64 p.2] 63))
  have K0 := Lib.hid (Bk.new w #[u, .int .i64 p.2] 63)
  clear ho hu
  have HN := Lib.hid hn
  go_enter Try.func94, Try.ntmps94
  go_wp2_with fail
  refine wgenv ?_
  intro wx hwx
  have BX := Lib.hid (show Below w.heap.size w wx by rw [hwx]; exact B0.out)
  have KX := Lib.hid (show Bk wx w.heap.size #[u, .int .i64 p.2] 63 by rw [hwx]; exact K0.out)
  have hxs : wx.heap.size = w.heap.size + 1 := by rw [hwx]; simp
  clear hwx B0 K0
  have HXS := Lib.hid hxs
  have hxl : w.heap.size < wx.heap.size := by omega
  clear hxs
  go_loopw [5] (fun i wr => ∃ k : Nat, k ≤ l.length ∧ i = .int .i64 k ∧ downQ l p l.length = downQ l p k ∧ Below wx.heap.size wx wr) (fun i _ => (RowKit.intOf i).toNat)
  case atStart => exact ⟨l.length, Nat.le_refl _, rfl, rfl, Below.refl _ _⟩
  case round =>
    obtain ⟨k, hk, rfl, ht, hbr⟩ := hrel
    rename World => w1
    have HB := Lib.hid hbr
    have HT := Lib.hid ht
    clear ht
    by_cases h0 : 0 < k
    · have hi0 : (0 : Int) < (k : Int) := by omega
      obtain ⟨j, hj⟩ : ∃ j, j + 1 = k := ⟨k - 1, by omega⟩
      have hjl : j < l.length := by omega
      have i0 : IntKind.i64.wrap ((k : Int) - 1) = (j : Int) := by rw [IntWalk.i64_in _ (by omega)]; omega
      have i1 : (0 : Int) ≤ (j : Int) := by omega
      have i2 : (j : Int) < (l.length : Int) := by omega
      have HJ := Lib.hid hj
      obtain ⟨b, y, rfl, _, _, hb2, hcell, hcell1, _, _, hsy, _⟩ := HO.out.at j hjl rfl
      have hsx := hsy.sl
      have HY := Lib.hid (show Hv w (.agg #[y, .int .i64 l[j].2]) l[j] from ⟨y, rfl, hsx⟩)
      have hbx : b < wx.heap.size := by omega
      rw [← BX.out.cell (p := ⟨b, j * 2, none⟩) hb2, ← HB.out.cell (p := ⟨b, j * 2, none⟩) hbx] at hcell
      rw [← BX.out.cell (p := ⟨b, j * 2 + 1, none⟩) hb2, ← HB.out.cell (p := ⟨b, j * 2 + 1, none⟩) hbx] at hcell1
      obtain ⟨⟨p0, p1⟩, -⟩ := (KX.out.below hbr).two
      have HA := Lib.hid (BX.out.trans (hbr.mono BX.out.size))
      obtain ⟨q, hq⟩ : ∃ q : Int, cmpQ p l[j] = q := ⟨_, rfl⟩
      have HQ := Lib.hid hq
      have HYY := Lib.hid (show some y = wx.cell? ⟨b, j * 2, none⟩ by rw [← HB.out.cell (p := ⟨b, j * 2, none⟩) hbx]; exact hcell.symm)
      clear hsx hsy hq hj
      go_wp2_with fail
      go_region_held3 (fun w' => w'.cell? ⟨w.heap.size, 0, none⟩ = some u ∧ w'.cell? ⟨w.heap.size, 1, none⟩ = some (.int .i64 p.2) ∧ w'.cell? ⟨b, j * 2, none⟩ = some y ∧ w'.cell? ⟨b, j * 2 + 1, none⟩ = some (.int .i64 l[j].2) ∧ Below wx.heap.size wx w')
        (first
          | with_reducible exact keepF4 p0 p1 hcell hcell1 hbr
          | (go_split_ands; with_reducible exact keepE4 hxl hxl hbx hbx (by assumption) (by assumption) (by assumption) (by assumption) (by assumption) (by assumption))
          | go_keep)
        (first | (go_at_call 132; refine (s_cmp p l[j] _ _ _ (HP.out.below HA.out.drew) (HY.out.below HA.out.drew)).mono ?_; rintro e w1 ⟨rfl, hb1⟩; rw [HQ.out]))
      rename_i hH
      have HB1 := Lib.hid hH.2.2.2.2
      clear hH hbr p0 p1 hcell hcell1
      have HA1 := Lib.hid (BX.out.trans (HB1.out.mono BX.out.size))
      by_cases hd : q < 0
      · go_wp2
        exact ⟨⟨j, by omega, by go_num, HT.out.trans (downQ_lt HJ.out hjl (by rw [HQ.out]; exact hd)), HB1.out⟩, by have := HJ.out; simp [RowKit.intOf]; omega⟩
      · have HE := Lib.hid (HT.out.trans (downQ_ge HJ.out hjl (by rw [HQ.out]; exact hd)))
        go_wp2_with fail
        refine wgenv ?_
        intro w2 hw2
        have HB2 := Lib.hid (show Below wx.heap.size wx w2 by rw [hw2]; exact HB1.out)
        have hbr2 := HB2.out
        have HA2 := Lib.hid (BX.out.trans (HB2.out.mono BX.out.size))
        clear hw2
        obtain ⟨⟨p0, p1⟩, -⟩ := (KX.out.below HB2.out).two
        obtain ⟨b', y', e', _, _, _, hcell, hcell1, _⟩ := HO.out.at j hjl rfl
        obtain rfl : b = b' := by simpa using e'
        rw [← BX.out.cell (p := ⟨b, j * 2, none⟩) hb2, ← HB2.out.cell (p := ⟨b, j * 2, none⟩) hbx] at hcell
        rw [← BX.out.cell (p := ⟨b, j * 2 + 1, none⟩) hb2, ← HB2.out.cell (p := ⟨b, j * 2 + 1, none⟩) hbx] at hcell1
        obtain rfl : y = y' := Option.some.inj (HYY.out.trans (by rw [← hcell, HB2.out.cell (p := ⟨b, j * 2, none⟩) hbx]))
        clear e'
        go_region_held3 (fun w' => w'.cell? ⟨w.heap.size, 0, none⟩ = some u ∧ w'.cell? ⟨w.heap.size, 1, none⟩ = some (.int .i64 p.2) ∧ w'.cell? ⟨b, j * 2, none⟩ = some y ∧ w'.cell? ⟨b, j * 2 + 1, none⟩ = some (.int .i64 l[j].2) ∧ Below wx.heap.size wx w')
          (first
            | with_reducible exact keepF4 p0 p1 hcell hcell1 hbr2
            | (go_split_ands; with_reducible exact keepE4 hxl hxl hbx hbx (by assumption) (by assumption) (by assumption) (by assumption) (by assumption) (by assumption))
            | go_keep)
          (first | (go_at_call 132; refine (s_cmp p l[j] _ _ _ (HP.out.below HA2.out.drew) (HY.out.below HA2.out.drew)).mono ?_; rintro e w1 ⟨rfl, hb1⟩; rw [HQ.out]))
        rename_i hH
        have HB3 := Lib.hid hH.2.2.2.2
        clear hH hbr2 p0 p1 hcell hcell1 HB1 HB2 HA2
        have HA3 := Lib.hid (BX.out.trans (HB3.out.mono BX.out.size))
        by_cases hz : q = 0
        · have ES := Lib.hid (putQ_has HE.out HJ.out hjl (by rw [HQ.out]; exact hz))
          go_wp2
          go_ret
          exact put_mk ES.out ⟨⟨_, rfl, (HO.out.below HA3.out).mono (Nat.le_refl _) (Nat.le_trans hm HA3.out.size), fun _ h => .inl h⟩, grown_below HA3.out⟩
        · have ES := Lib.hid (putQ_new HE.out HJ.out hjl (by rw [HQ.out]; exact hz))
          have HBX := Lib.hid HB3.out
          clear HB3 HA3 HE HQ HY HYY HT
          go_upto_region 6 with (fail)
          refine wgenv ?_
          intro wt hwt
          have BT := Lib.hid (show Below wx.heap.size wx wt by rw [hwt]; exact HBX.out)
          clear hwt
          have BA := Lib.hid (BX.out.trans (BT.out.mono BX.out.size))
          have UT := Lib.hid (HU.out.below BA.out)
          have KT := Lib.hid (KX.out.below BT.out)
          have hwl : w.heap.size ≤ wt.heap.size := BA.out.size
          obtain ⟨us, k1, k2, k3, k4, k5, k6⟩ := HO.out.below BA.out
          have UO := Lib.hid (show ∀ x ∈ us, x.oneCell' = true from fun x hx => by
            obtain ⟨i, hi, hix⟩ := List.mem_iff_getElem.1 hx
            exact own_one (k4 i x l[i] (by rw [← hix]; exact List.getElem?_eq_getElem hi) (List.getElem?_eq_getElem (by omega))))
          have US := Lib.hid (And.intro k1 (And.intro k2 (And.intro k4 (And.intro k5 k6))))
          clear k1 k2 k4 k5 k6
          by_cases hkl : k < l.length
          · obtain ⟨b', x0, e9, hg1, hg2, hg3, -⟩ := HO.out.at k hkl rfl
            obtain rfl : b = b' := by simpa using e9
            clear e9
            have hk3 := k3 b rfl
            have i5 : (0 : Int) ≤ (k : Int) := by omega
            have i6 : (k : Int) ≤ (l.length : Int) := by omega
            have hvc : l.length ≤ vc := by
              rcases US.out.2.1.2 with ⟨h, _⟩ | ⟨_, _, _, h, _, _, h2, _⟩
              · cases h
              · simp only [Value.slice.injEq] at h; omega
            have i7 : (l.length : Int) ≤ (vc : Int) := by omega
            have i8 : ¬ vc < k := by omega
            have HN1 := Lib.hid (row_news (owns2_below US.out.2.1 (below1 wt (.cells #[] 63))) US.out.1 rfl k)
            have hl1 : (us.drop k).length = l.length - k := by rw [List.length_drop, US.out.1]
            have hl2 : (l.drop k).length = l.length - k := by rw [List.length_drop]
            have HL12 := Lib.hid (And.intro hl1 hl2)
            clear hl1 hl2
            have RM := Lib.hid (World.ownsRow_made wt (base := wt.heap.size) (e := 63) (size := 2) #[] 0 (Nat.le_refl _) (by unfold maxLen; omega) rfl)
            go_wp2_with (first | (at_builtin; go_must (refine list_rats rfl _ _ rfl wt.heap.size (.slice (some ⟨wt.heap.size, 0, none⟩) 0 0) 0 [] rfl RM.out ⟨b, k * 2, none⟩ (l.length - k) (vc - k) (us.drop k) (l.drop k) HL12.out.1 HL12.out.2 rfl HN1.out (fun x hx => UO.out x (List.mem_of_mem_drop hx)) (by omega) (by omega) (by simp) ?_; intro g7 c7 w7 ho7 hg7 hat7)))
            have n0 : 0 + (l.length - k) = l.length - k := Nat.zero_add _
            rw [n0] at ho7
            have HO7 := Lib.hid (show w7.ownsRow wt.heap.size 63 2 (.slice (some ⟨g7, 0, none⟩) (l.length - k) c7) (l.length - k) (flat (us.drop k) (l.drop k)) from ho7)
            have G7 := Lib.hid (show wt.grownBy w7 none from grown_trans (World.grownBy_alloc wt _ none) hg7 (fun q hq => .inr (by simp [Value.ownBlock] at hq; omega)))
            have hg7' : wt.heap.size ≤ g7 := by
              rcases hat7 with h | h
              · have : wt.heap.size = g7 := by simpa [Value.ownBlock] using h
                omega
              · rw [h]; simp
            clear ho7 hg7 hat7
            have B7 := Lib.hid (show Below wt.heap.size wt w7 from ⟨G7.out.os, G7.out.tape, G7.out.output, G7.out.size, fun q hq => G7.out.block q hq (by simp)⟩)
            have K7 := Lib.hid (KT.out.below B7.out)
            obtain ⟨⟨p0, p1⟩, -⟩ := K7.out.two
            clear n0
            refine T_begin (z := fun q => 7 < q) (S := fun (w' : World) => w'.cell? ⟨w.heap.size, 0, none⟩ = some u ∧ w'.cell? ⟨w.heap.size, 1, none⟩ = some (.int .i64 p.2)) (by kernel_rfl) ?_
            show wpAnyT _ _ _ _ _ _ 9 _ _ _
            have hS0 := Lib.hid (show (fun (w' : World) => w'.cell? ⟨w.heap.size, 0, none⟩ = some u ∧ w'.cell? ⟨w.heap.size, 1, none⟩ = some (.int .i64 p.2)) _ from ⟨p0, p1⟩)
            refine T_take (i := 0) (v := .slice (some ⟨b, 0, none⟩) l.length vc) rfl (by kernel_rfl) (by kernel_rfl) (by kernel_rfl) (by kernel_rfl) (fun _ _ _ h => h) hS0.out (by kernel_rfl) (fun w' hS' => by (try dsimp only at hS'); go_simp) ?_
            refine T_take (i := 1) (v := .int .i64 k) rfl (by kernel_rfl) (by kernel_rfl) (by kernel_rfl) (by kernel_rfl) (fun _ _ _ h => h) hS0.out (by kernel_rfl) (fun w' hS' => by (try dsimp only at hS'); go_simp) ?_
            refine T_take (i := 2) (v := .slice (some ⟨b, 0, none⟩) k vc) rfl (by kernel_rfl) (by kernel_rfl) (by kernel_rfl) (by kernel_rfl) (fun _ _ _ h => h) hS0.out (by kernel_rfl) (fun w' hS' => by (try dsimp only at hS'); go_simp) ?_
            refine T_take (i := 3) (v := .agg #[u, .int .i64 p.2]) rfl (by kernel_rfl) (by kernel_rfl) (by kernel_rfl) (by kernel_rfl) (fun _ _ _ h => h) hS0.out (by kernel_rfl) (fun w' hS' => by (try dsimp only at hS'); go_simp) ?_
            refine T_take (i := 6) (v := .slice (some ⟨g7, 0, none⟩) (l.length - k) c7) rfl (by kernel_rfl) (by kernel_rfl) (by kernel_rfl) (by kernel_rfl) (fun _ _ _ h => h) hS0.out (by kernel_rfl) (fun w' hS' => by (try dsimp only at hS'); go_simp) ?_
            refine T_step (i := 4) rfl (by kernel_rfl) rfl (by kernel_rfl) ?_
            intro K hK
            go_simp
            refine hK.out _ _ ⟨(K7.out.below (below1 w7 _)).two.1.1, (K7.out.below (below1 w7 _)).two.1.2⟩ ?_
            clear hK K hS0 p0 p1
            refine T_step (i := 5) rfl (by kernel_rfl) rfl (by kernel_rfl) ?_
            intro K hK
            have b7 := (below1 w7 (.cells #[u, .int .i64 p.2] 63)).drew
            have BB := Lib.hid (B7.out.trans (b7.mono B7.out.size))
            have KB := Lib.hid (K7.out.below b7)
            have OB := Lib.hid (owns2_below HO7.out b7)
            have hsz : w7.heap.size < (w7.alloc (.cells #[u, .int .i64 p.2] 63)).drew.heap.size := by simp [World.drew]
            have NB := Lib.hid (World.news_of_block (cs := #[u, .int .i64 p.2]) (show (w7.alloc (.cells #[u, .int .i64 p.2] 63)).drew.heap[w7.heap.size]? = some (.cells #[u, .int .i64 p.2] 63 (0, 0)) from heap_alloc_new w7 _))
            clear b7
            refine wp_rats _ _ (by rfl) base (.slice (some ⟨b, 0, none⟩) k vc) k ((flat us l).take (k * 2)) rfl (owns_cut (owns2_below US.out.2.1 BB.out) hk) ⟨w7.heap.size, 0, none⟩ 1 1 [u] [p] rfl rfl rfl NB.out (fun x hx => by rw [List.mem_singleton.1 hx]; exact own_one UT.out) (by omega) (by omega) (Nat.le_trans (Nat.le_trans hbm hm) (Nat.le_trans hwl BB.out.size)) ?_
            intro g8 c8 w8 ho8 hg8 hat8
            have rb : ∀ q, (Value.slice (some ⟨b, 0, none⟩) k vc).ownBlock = some q → q = b := fun q hq => by simp [Value.ownBlock] at hq; omega
            have K8 := Lib.hid (KB.out.grown hg8 (fun e => by have := rb _ e.symm; omega))
            have O8 := Lib.hid (OB.out.kept hg8 (.inr (fun e => by have := rb g7 e.symm; omega)))
            have G8 := Lib.hid (show wt.grownBy w8 (some b) from grown_trans ⟨BB.out.os, BB.out.tape, BB.out.output, BB.out.size, fun q hq _ => BB.out.block q hq⟩ hg8 (fun q hq => .inl (by rw [rb q hq])))
            have hg8' : g8 = b ∨ wt.heap.size ≤ g8 := by
              rcases hat8 with h | h
              · exact .inl (rb g8 h)
              · exact .inr (by rw [h]; exact BB.out.size)
            have HO8 := Lib.hid ho8
            clear ho8 hg8 hat8 rb NB
            refine hK.out _ _ ⟨K8.out.two.1.1, K8.out.two.1.2⟩ ?_
            clear hK K
            refine T_step (i := 7) rfl (by kernel_rfl) rfl (by kernel_rfl) ?_
            intro K hK
            have hnw := row_news O8.out (by rw [HL12.out.1, HL12.out.2]) HL12.out.2 0
            rw [List.drop_zero, List.drop_zero, Nat.zero_mul] at hnw
            refine wp_rats _ _ (by rfl) base (.slice (some ⟨g8, 0, none⟩) (k + 1) c8) (k + 1) _ rfl HO8.out ⟨g7, 0, none⟩ (l.length - k) c7 (us.drop k) (l.drop k) HL12.out.1 HL12.out.2 rfl hnw (fun x hx => UO.out x (List.mem_of_mem_drop hx)) (by omega) (by omega) (Nat.le_trans (Nat.le_trans hbm hm) (Nat.le_trans hwl G8.out.size)) ?_
            intro g9 c9 w9 ho9 hg9 hat9
            clear hnw
            have rb : ∀ q, (Value.slice (some ⟨g8, 0, none⟩) (k + 1) c8).ownBlock = some q → q = g8 := fun q hq => by simp [Value.ownBlock] at hq; omega
            have K9 := Lib.hid (K8.out.grown hg9 (fun e => by have := rb _ e.symm; have := BT.out.size; rcases hg8' with h | h <;> omega))
            have G9 := Lib.hid (show wt.grownBy w9 (some b) from grown_trans G8.out hg9 (fun q hq => by
              have := rb q hq
              rcases hg8' with h | h
              · exact .inl (by rw [this, h])
              · exact .inr (by omega)))
            have hg9' : b = g9 ∨ wt.heap.size ≤ g9 := by
              rcases hat9 with h | h
              · have := rb g9 h
                rcases hg8' with h | h
                · exact .inl (by omega)
                · exact .inr (by omega)
              · exact .inr (by rw [h]; exact G8.out.size)
            have e9 : (flat us l).take (k * 2) ++ flat [u] [p] ++ flat (us.drop k) (l.drop k) = flat (us.take k ++ u :: us.drop k) (l.take k ++ p :: l.drop k) := by
              rw [flat_take _ _ _ US.out.1, flat_app (us.take k) (l.take k) (u :: us.drop k) (p :: l.drop k) (by rw [List.length_take, List.length_take, US.out.1])]
              simp [flat]
            have n9 : k + 1 + (l.length - k) = l.length + 1 := by omega
            rw [e9, n9] at ho9
            have HO9 := Lib.hid ho9
            clear ho9 hg9 hat9 rb e9
            rw [n9]
            refine hK.out _ _ ⟨K9.out.two.1.1, K9.out.two.1.2⟩ ?_
            clear hK K n9
            refine T_last (i := 8) rfl (by kernel_rfl) (by kernel_rfl) rfl rfl ?_
            go_simp
            go_wp2
            go_ret
            have hat := Lib.hid (show ∀ q, (Value.slice (some ⟨g9, 0, none⟩) (l.length + 1) c9).ownBlock = some q → (Value.slice (some ⟨b, 0, none⟩) l.length vc).ownBlock = some q ∨ wt.heap.size ≤ q from fun q hq => by
              have : g9 = q := by simpa [Value.ownBlock] using hq
              rcases hg9' with h | h
              · exact .inl (by rw [show b = q by omega]; rfl)
              · exact .inr (by omega))
            refine put_mk ES.out ⟨⟨_, rfl, OwH.insert (UT.out.mono (Nat.le_refl _) hwl) hbm (Nat.le_trans hm hwl) US.out k3 k hk HO9.out G9.out hat.out, fun q hq => (hat.out q hq).imp id (Nat.le_trans hwl)⟩, grown_trans (grown_below BA.out) G9.out (fun q hq => .inl hq)⟩
          · obtain rfl : k = l.length := by omega
            have hvc : l.length ≤ vc := by
              rcases US.out.2.1.2 with ⟨h, _⟩ | ⟨_, _, _, h, _, _, h2, _⟩
              · cases h
              · simp only [Value.slice.injEq] at h; omega
            have i8 : ¬ vc < l.length := by omega
            by_cases hv : vc = l.length
            · subst hv
              have RM := Lib.hid (World.ownsRow_made wt (base := wt.heap.size) (e := 63) (size := 2) #[] 0 (Nat.le_refl _) (by unfold maxLen; omega) rfl)
              go_wp2_with (first | (at_builtin; refine list_none rfl _ _ rfl wt.heap.size (.slice (some ⟨wt.heap.size, 0, none⟩) 0 0) 0 [] rfl RM.out _ _ rfl ?_))
              refine wgenv ?_
              intro w7 hw7
              have B7 := Lib.hid (show Below wt.heap.size wt w7 by rw [hw7]; exact below1 wt _)
              clear hw7
              have K7 := Lib.hid (KT.out.below B7.out)
              obtain ⟨⟨p0, p1⟩, -⟩ := K7.out.two
              refine T_begin (z := fun q => 7 < q) (S := fun (w' : World) => w'.cell? ⟨w.heap.size, 0, none⟩ = some u ∧ w'.cell? ⟨w.heap.size, 1, none⟩ = some (.int .i64 p.2)) (by kernel_rfl) ?_
              show wpAnyT _ _ _ _ _ _ 9 _ _ _
              have hS0 := Lib.hid (show (fun (w' : World) => w'.cell? ⟨w.heap.size, 0, none⟩ = some u ∧ w'.cell? ⟨w.heap.size, 1, none⟩ = some (.int .i64 p.2)) _ from ⟨p0, p1⟩)
              refine T_take (i := 0) (v := .slice (some ⟨b, 0, none⟩) l.length l.length) rfl (by kernel_rfl) (by kernel_rfl) (by kernel_rfl) (by kernel_rfl) (fun _ _ _ h => h) hS0.out (by kernel_rfl) (fun w' hS' => by (try dsimp only at hS'); go_simp) ?_
              refine T_take (i := 1) (v := .int .i64 (l.length : Nat)) rfl (by kernel_rfl) (by kernel_rfl) (by kernel_rfl) (by kernel_rfl) (fun _ _ _ h => h) hS0.out (by kernel_rfl) (fun w' hS' => by (try dsimp only at hS'); go_simp) ?_
              refine T_take (i := 2) (v := .slice (some ⟨b, 0, none⟩) l.length l.length) rfl (by kernel_rfl) (by kernel_rfl) (by kernel_rfl) (by kernel_rfl) (fun _ _ _ h => h) hS0.out (by kernel_rfl) (fun w' hS' => by (try dsimp only at hS'); go_simp) ?_
              refine T_take (i := 3) (v := .agg #[u, .int .i64 p.2]) rfl (by kernel_rfl) (by kernel_rfl) (by kernel_rfl) (by kernel_rfl) (fun _ _ _ h => h) hS0.out (by kernel_rfl) (fun w' hS' => by (try dsimp only at hS'); go_simp) ?_
              refine T_take (i := 6) (v := .slice (some ⟨wt.heap.size, 0, none⟩) 0 0) rfl (by kernel_rfl) (by kernel_rfl) (by kernel_rfl) (by kernel_rfl) (fun _ _ _ h => h) hS0.out (by kernel_rfl) (fun w' hS' => by (try dsimp only at hS'); go_simp) ?_
              refine T_step (i := 4) rfl (by kernel_rfl) rfl (by kernel_rfl) ?_
              intro K hK
              go_simp
              refine hK.out _ _ ⟨(K7.out.below (below1 w7 _)).two.1.1, (K7.out.below (below1 w7 _)).two.1.2⟩ ?_
              clear hK K hS0 p0 p1
              refine T_step (i := 5) rfl (by kernel_rfl) rfl (by kernel_rfl) ?_
              intro K hK
              have b7 := (below1 w7 (.cells #[u, .int .i64 p.2] 63)).drew
              have BB := Lib.hid (B7.out.trans (b7.mono B7.out.size))
              have KB := Lib.hid (K7.out.below b7)
              have NB := Lib.hid (World.news_of_block (cs := #[u, .int .i64 p.2]) (show (w7.alloc (.cells #[u, .int .i64 p.2] 63)).drew.heap[w7.heap.size]? = some (.cells #[u, .int .i64 p.2] 63 (0, 0)) from heap_alloc_new w7 _))
              clear b7
              refine wp_rats _ _ (by rfl) base (.slice (some ⟨b, 0, none⟩) l.length l.length) l.length (flat us l) rfl (owns2_below US.out.2.1 BB.out) ⟨w7.heap.size, 0, none⟩ 1 1 [u] [p] rfl rfl rfl NB.out (fun x hx => by rw [List.mem_singleton.1 hx]; exact own_one UT.out) (by omega) (by omega) (Nat.le_trans (Nat.le_trans hbm hm) (Nat.le_trans hwl BB.out.size)) ?_
              intro g8 c8 w8 ho8 hg8 hat8
              have K8 := Lib.hid (KB.out.grown hg8 (fun e => by have := k3 _ e.symm; omega))
              have G8 := Lib.hid (show wt.grownBy w8 (Value.ownBlock (.slice (some ⟨b, 0, none⟩) l.length l.length)) from grown_trans ⟨BB.out.os, BB.out.tape, BB.out.output, BB.out.size, fun q hq _ => BB.out.block q hq⟩ hg8 (fun q hq => .inl hq))
              have hat := Lib.hid (show ∀ q, (Value.slice (some ⟨g8, 0, none⟩) (l.length + 1) c8).ownBlock = some q → (Value.ownBlock (.slice (some ⟨b, 0, none⟩) l.length l.length)) = some q ∨ wt.heap.size ≤ q from fun q hq => by
                have e : g8 = q := by simpa [Value.ownBlock] using hq
                rcases hat8 with h | h
                · exact .inl (by rw [h, e])
                · exact .inr (by rw [← e, h]; exact BB.out.size))
              have HO8 := Lib.hid ho8
              clear ho8 hg8 hat8 NB
              refine hK.out _ _ ⟨K8.out.two.1.1, K8.out.two.1.2⟩ ?_
              clear hK K
              refine T_step (i := 7) rfl (by kernel_rfl) rfl (by kernel_rfl) ?_
              intro K hK
              refine wp_none _ _ (by rfl) base (.slice (some ⟨g8, 0, none⟩) (l.length + 1) c8) (l.length + 1) _ rfl HO8.out _ _ rfl ?_
              refine hK.out _ _ ⟨K8.out.two.1.1, K8.out.two.1.2⟩ ?_
              clear hK K
              refine T_last (i := 8) rfl (by kernel_rfl) (by kernel_rfl) rfl rfl ?_
              go_simp
              go_wp2
              go_ret
              refine put_mk ES.out ⟨⟨_, rfl, OwH.insert (UT.out.mono (Nat.le_refl _) hwl) hbm (Nat.le_trans hm hwl) US.out k3 l.length (Nat.le_refl _) ?_ G8.out hat.out, fun q hq => (hat.out q hq).imp id (Nat.le_trans hwl)⟩, grown_trans (grown_below BA.out) G8.out (fun q hq => .inl hq)⟩
              have e9 : flat us l ++ flat [u] [p] = flat (us.take l.length ++ u :: us.drop l.length) (l.take l.length ++ p :: l.drop l.length) := by
                rw [List.take_of_length_le (show us.length ≤ l.length by rw [US.out.1]; exact Nat.le_refl _), List.drop_of_length_le (show us.length ≤ l.length by rw [US.out.1]; exact Nat.le_refl _), List.take_length, List.drop_length, flat_app us l [u] [p] US.out.1]
              rw [← e9]
              exact HO8.out
            · have RM := Lib.hid (World.ownsRow_made wt (base := wt.heap.size) (e := 63) (size := 2) #[] 0 (Nat.le_refl _) (by unfold maxLen; omega) rfl)
              go_wp2_with (first | (at_builtin; refine list_none rfl _ _ rfl wt.heap.size (.slice (some ⟨wt.heap.size, 0, none⟩) 0 0) 0 [] rfl RM.out _ _ rfl ?_))
              refine wgenv ?_
              intro w7 hw7
              have B7 := Lib.hid (show Below wt.heap.size wt w7 by rw [hw7]; exact below1 wt _)
              clear hw7
              have K7 := Lib.hid (KT.out.below B7.out)
              obtain ⟨⟨p0, p1⟩, -⟩ := K7.out.two
              refine T_begin (z := fun q => 7 < q) (S := fun (w' : World) => w'.cell? ⟨w.heap.size, 0, none⟩ = some u ∧ w'.cell? ⟨w.heap.size, 1, none⟩ = some (.int .i64 p.2)) (by kernel_rfl) ?_
              show wpAnyT _ _ _ _ _ _ 9 _ _ _
              have hS0 := Lib.hid (show (fun (w' : World) => w'.cell? ⟨w.heap.size, 0, none⟩ = some u ∧ w'.cell? ⟨w.heap.size, 1, none⟩ = some (.int .i64 p.2)) _ from ⟨p0, p1⟩)
              refine T_take (i := 0) (v := .slice (some ⟨b, 0, none⟩) l.length vc) rfl (by kernel_rfl) (by kernel_rfl) (by kernel_rfl) (by kernel_rfl) (fun _ _ _ h => h) hS0.out (by kernel_rfl) (fun w' hS' => by (try dsimp only at hS'); go_simp) ?_
              refine T_take (i := 1) (v := .int .i64 (l.length : Nat)) rfl (by kernel_rfl) (by kernel_rfl) (by kernel_rfl) (by kernel_rfl) (fun _ _ _ h => h) hS0.out (by kernel_rfl) (fun w' hS' => by (try dsimp only at hS'); go_simp) ?_
              refine T_take (i := 2) (v := .slice (some ⟨b, 0, none⟩) l.length vc) rfl (by kernel_rfl) (by kernel_rfl) (by kernel_rfl) (by kernel_rfl) (fun _ _ _ h => h) hS0.out (by kernel_rfl) (fun w' hS' => by (try dsimp only at hS'); go_simp) ?_
              refine T_take (i := 3) (v := .agg #[u, .int .i64 p.2]) rfl (by kernel_rfl) (by kernel_rfl) (by kernel_rfl) (by kernel_rfl) (fun _ _ _ h => h) hS0.out (by kernel_rfl) (fun w' hS' => by (try dsimp only at hS'); go_simp) ?_
              refine T_take (i := 6) (v := .slice (some ⟨wt.heap.size, 0, none⟩) 0 0) rfl (by kernel_rfl) (by kernel_rfl) (by kernel_rfl) (by kernel_rfl) (fun _ _ _ h => h) hS0.out (by kernel_rfl) (fun w' hS' => by (try dsimp only at hS'); go_simp) ?_
              refine T_step (i := 4) rfl (by kernel_rfl) rfl (by kernel_rfl) ?_
              intro K hK
              go_simp
              refine hK.out _ _ ⟨(K7.out.below (below1 w7 _)).two.1.1, (K7.out.below (below1 w7 _)).two.1.2⟩ ?_
              clear hK K hS0 p0 p1
              refine T_step (i := 5) rfl (by kernel_rfl) rfl (by kernel_rfl) ?_
              intro K hK
              have b7 := (below1 w7 (.cells #[u, .int .i64 p.2] 63)).drew
              have BB := Lib.hid (B7.out.trans (b7.mono B7.out.size))
              have KB := Lib.hid (K7.out.below b7)
              have NB := Lib.hid (World.news_of_block (cs := #[u, .int .i64 p.2]) (show (w7.alloc (.cells #[u, .int .i64 p.2] 63)).drew.heap[w7.heap.size]? = some (.cells #[u, .int .i64 p.2] 63 (0, 0)) from heap_alloc_new w7 _))
              clear b7
              refine wp_rats _ _ (by rfl) base (.slice (some ⟨b, 0, none⟩) l.length vc) l.length (flat us l) rfl (owns2_below US.out.2.1 BB.out) ⟨w7.heap.size, 0, none⟩ 1 1 [u] [p] rfl rfl rfl NB.out (fun x hx => by rw [List.mem_singleton.1 hx]; exact own_one UT.out) (by omega) (by omega) (Nat.le_trans (Nat.le_trans hbm hm) (Nat.le_trans hwl BB.out.size)) ?_
              intro g8 c8 w8 ho8 hg8 hat8
              have K8 := Lib.hid (KB.out.grown hg8 (fun e => by have := k3 _ e.symm; omega))
              have G8 := Lib.hid (show wt.grownBy w8 (Value.ownBlock (.slice (some ⟨b, 0, none⟩) l.length vc)) from grown_trans ⟨BB.out.os, BB.out.tape, BB.out.output, BB.out.size, fun q hq _ => BB.out.block q hq⟩ hg8 (fun q hq => .inl hq))
              have hat := Lib.hid (show ∀ q, (Value.slice (some ⟨g8, 0, none⟩) (l.length + 1) c8).ownBlock = some q → (Value.ownBlock (.slice (some ⟨b, 0, none⟩) l.length vc)) = some q ∨ wt.heap.size ≤ q from fun q hq => by
                have e : g8 = q := by simpa [Value.ownBlock] using hq
                rcases hat8 with h | h
                · exact .inl (by rw [h, e])
                · exact .inr (by rw [← e, h]; exact BB.out.size))
              have HO8 := Lib.hid ho8
              clear ho8 hg8 hat8 NB
              refine hK.out _ _ ⟨K8.out.two.1.1, K8.out.two.1.2⟩ ?_
              clear hK K
              refine T_step (i := 7) rfl (by kernel_rfl) rfl (by kernel_rfl) ?_
              intro K hK
              refine wp_none _ _ (by rfl) base (.slice (some ⟨g8, 0, none⟩) (l.length + 1) c8) (l.length + 1) _ rfl HO8.out _ _ rfl ?_
              refine hK.out _ _ ⟨K8.out.two.1.1, K8.out.two.1.2⟩ ?_
              clear hK K
              refine T_last (i := 8) rfl (by kernel_rfl) (by kernel_rfl) rfl rfl ?_
              go_simp
              go_wp2
              go_ret
              refine put_mk ES.out ⟨⟨_, rfl, OwH.insert (UT.out.mono (Nat.le_refl _) hwl) hbm (Nat.le_trans hm hwl) US.out k3 l.length (Nat.le_refl _) ?_ G8.out hat.out, fun q hq => (hat.out q hq).imp id (Nat.le_trans hwl)⟩, grown_trans (grown_below BA.out) G8.out (fun q hq => .inl hq)⟩
              have e9 : flat us l ++ flat [u] [p] = flat (us.take l.length ++ u :: us.drop l.length) (l.take l.length ++ p :: l.drop l.length) := by
                rw [List.take_of_length_le (show us.length ≤ l.length by rw [US.out.1]; exact Nat.le_refl _), List.drop_of_length_le (show us.length ≤ l.length by rw [US.out.1]; exact Nat.le_refl _), List.take_length, List.drop_length, flat_app us l [u] [p] US.out.1]
              rw [← e9]
              exact HO8.out
    · have hi0 : ¬ (0 : Int) < (k : Int) := by omega
      have ES := Lib.hid (putQ_zero (HT.out.trans (show downQ l p k = k by rw [show k = 0 by omega]; rfl)) h0)
      have c0 : decide ((0 : Int) < (k : Int)) = false := decide_eq_false hi0
      clear HT
      go_wp2_with fail
      go_quiet (fail)
      go_wp2_with fail
      go_quiet (fail)
      go_upto_region 6 with (fail)
      refine wgenv ?_
      intro wt hwt
      have BT := Lib.hid (show Below wx.heap.size wx wt by rw [hwt]; exact (below_drewN' (below_drewN' HB.out _) _))
      clear hwt
      have BA := Lib.hid (BX.out.trans (BT.out.mono BX.out.size))
      have UT := Lib.hid (HU.out.below BA.out)
      have KT := Lib.hid (KX.out.below BT.out)
      have hwl : w.heap.size ≤ wt.heap.size := BA.out.size
      obtain ⟨us, k1, k2, k3, k4, k5, k6⟩ := HO.out.below BA.out
      have UO := Lib.hid (show ∀ x ∈ us, x.oneCell' = true from fun x hx => by
        obtain ⟨i, hi, hix⟩ := List.mem_iff_getElem.1 hx
        exact own_one (k4 i x l[i] (by rw [← hix]; exact List.getElem?_eq_getElem hi) (List.getElem?_eq_getElem (by omega))))
      have US := Lib.hid (And.intro k1 (And.intro k2 (And.intro k4 (And.intro k5 k6))))
      clear k1 k2 k4 k5 k6
      by_cases hkl : k < l.length
      · obtain ⟨b, x0, rfl, hg1, hg2, hg3, -⟩ := HO.out.at k hkl rfl
        have hk3 := k3 b rfl
        have i5 : (0 : Int) ≤ (k : Int) := by omega
        have i6 : (k : Int) ≤ (l.length : Int) := by omega
        have hvc : l.length ≤ vc := by
          rcases US.out.2.1.2 with ⟨h, _⟩ | ⟨_, _, _, h, _, _, h2, _⟩
          · cases h
          · simp only [Value.slice.injEq] at h; omega
        have i7 : (l.length : Int) ≤ (vc : Int) := by omega
        have i8 : ¬ vc < k := by omega
        have HN1 := Lib.hid (row_news (owns2_below US.out.2.1 (below1 wt (.cells #[] 63))) US.out.1 rfl k)
        have hl1 : (us.drop k).length = l.length - k := by rw [List.length_drop, US.out.1]
        have hl2 : (l.drop k).length = l.length - k := by rw [List.length_drop]
        have HL12 := Lib.hid (And.intro hl1 hl2)
        clear hl1 hl2
        have RM := Lib.hid (World.ownsRow_made wt (base := wt.heap.size) (e := 63) (size := 2) #[] 0 (Nat.le_refl _) (by unfold maxLen; omega) rfl)
        go_wp2_with (first | (at_builtin; go_must (refine list_rats rfl _ _ rfl wt.heap.size (.slice (some ⟨wt.heap.size, 0, none⟩) 0 0) 0 [] rfl RM.out ⟨b, k * 2, none⟩ (l.length - k) (vc - k) (us.drop k) (l.drop k) HL12.out.1 HL12.out.2 rfl HN1.out (fun x hx => UO.out x (List.mem_of_mem_drop hx)) (by omega) (by omega) (by simp) ?_; intro g7 c7 w7 ho7 hg7 hat7)))
        have n0 : 0 + (l.length - k) = l.length - k := Nat.zero_add _
        rw [n0] at ho7
        have HO7 := Lib.hid (show w7.ownsRow wt.heap.size 63 2 (.slice (some ⟨g7, 0, none⟩) (l.length - k) c7) (l.length - k) (flat (us.drop k) (l.drop k)) from ho7)
        have G7 := Lib.hid (show wt.grownBy w7 none from grown_trans (World.grownBy_alloc wt _ none) hg7 (fun q hq => .inr (by simp [Value.ownBlock] at hq; omega)))
        have hg7' : wt.heap.size ≤ g7 := by
          rcases hat7 with h | h
          · have : wt.heap.size = g7 := by simpa [Value.ownBlock] using h
            omega
          · rw [h]; simp
        clear ho7 hg7 hat7
        have B7 := Lib.hid (show Below wt.heap.size wt w7 from ⟨G7.out.os, G7.out.tape, G7.out.output, G7.out.size, fun q hq => G7.out.block q hq (by simp)⟩)
        have K7 := Lib.hid (KT.out.below B7.out)
        obtain ⟨⟨p0, p1⟩, -⟩ := K7.out.two
        clear n0
        refine T_begin (z := fun q => 7 < q) (S := fun (w' : World) => w'.cell? ⟨w.heap.size, 0, none⟩ = some u ∧ w'.cell? ⟨w.heap.size, 1, none⟩ = some (.int .i64 p.2)) (by kernel_rfl) ?_
        show wpAnyT _ _ _ _ _ _ 9 _ _ _
        have hS0 := Lib.hid (show (fun (w' : World) => w'.cell? ⟨w.heap.size, 0, none⟩ = some u ∧ w'.cell? ⟨w.heap.size, 1, none⟩ = some (.int .i64 p.2)) _ from ⟨p0, p1⟩)
        refine T_take (i := 0) (v := .slice (some ⟨b, 0, none⟩) l.length vc) rfl (by kernel_rfl) (by kernel_rfl) (by kernel_rfl) (by kernel_rfl) (fun _ _ _ h => h) hS0.out (by kernel_rfl) (fun w' hS' => by (try dsimp only at hS'); go_simp) ?_
        refine T_take (i := 1) (v := .int .i64 k) rfl (by kernel_rfl) (by kernel_rfl) (by kernel_rfl) (by kernel_rfl) (fun _ _ _ h => h) hS0.out (by kernel_rfl) (fun w' hS' => by (try dsimp only at hS'); go_simp) ?_
        refine T_take (i := 2) (v := .slice (some ⟨b, 0, none⟩) k vc) rfl (by kernel_rfl) (by kernel_rfl) (by kernel_rfl) (by kernel_rfl) (fun _ _ _ h => h) hS0.out (by kernel_rfl) (fun w' hS' => by (try dsimp only at hS'); go_simp) ?_
        refine T_take (i := 3) (v := .agg #[u, .int .i64 p.2]) rfl (by kernel_rfl) (by kernel_rfl) (by kernel_rfl) (by kernel_rfl) (fun _ _ _ h => h) hS0.out (by kernel_rfl) (fun w' hS' => by (try dsimp only at hS'); go_simp) ?_
        refine T_take (i := 6) (v := .slice (some ⟨g7, 0, none⟩) (l.length - k) c7) rfl (by kernel_rfl) (by kernel_rfl) (by kernel_rfl) (by kernel_rfl) (fun _ _ _ h => h) hS0.out (by kernel_rfl) (fun w' hS' => by (try dsimp only at hS'); go_simp) ?_
        refine T_step (i := 4) rfl (by kernel_rfl) rfl (by kernel_rfl) ?_
        intro K hK
        go_simp
        refine hK.out _ _ ⟨(K7.out.below (below1 w7 _)).two.1.1, (K7.out.below (below1 w7 _)).two.1.2⟩ ?_
        clear hK K hS0 p0 p1
        refine T_step (i := 5) rfl (by kernel_rfl) rfl (by kernel_rfl) ?_
        intro K hK
        have b7 := (below1 w7 (.cells #[u, .int .i64 p.2] 63)).drew
        have BB := Lib.hid (B7.out.trans (b7.mono B7.out.size))
        have KB := Lib.hid (K7.out.below b7)
        have OB := Lib.hid (owns2_below HO7.out b7)
        have hsz : w7.heap.size < (w7.alloc (.cells #[u, .int .i64 p.2] 63)).drew.heap.size := by simp [World.drew]
        have NB := Lib.hid (World.news_of_block (cs := #[u, .int .i64 p.2]) (show (w7.alloc (.cells #[u, .int .i64 p.2] 63)).drew.heap[w7.heap.size]? = some (.cells #[u, .int .i64 p.2] 63 (0, 0)) from heap_alloc_new w7 _))
        clear b7
        refine wp_rats _ _ (by rfl) base (.slice (some ⟨b, 0, none⟩) k vc) k ((flat us l).take (k * 2)) rfl (owns_cut (owns2_below US.out.2.1 BB.out) hk) ⟨w7.heap.size, 0, none⟩ 1 1 [u] [p] rfl rfl rfl NB.out (fun x hx => by rw [List.mem_singleton.1 hx]; exact own_one UT.out) (by omega) (by omega) (Nat.le_trans (Nat.le_trans hbm hm) (Nat.le_trans hwl BB.out.size)) ?_
        intro g8 c8 w8 ho8 hg8 hat8
        have rb : ∀ q, (Value.slice (some ⟨b, 0, none⟩) k vc).ownBlock = some q → q = b := fun q hq => by simp [Value.ownBlock] at hq; omega
        have K8 := Lib.hid (KB.out.grown hg8 (fun e => by have := rb _ e.symm; omega))
        have O8 := Lib.hid (OB.out.kept hg8 (.inr (fun e => by have := rb g7 e.symm; omega)))
        have G8 := Lib.hid (show wt.grownBy w8 (some b) from grown_trans ⟨BB.out.os, BB.out.tape, BB.out.output, BB.out.size, fun q hq _ => BB.out.block q hq⟩ hg8 (fun q hq => .inl (by rw [rb q hq])))
        have hg8' : g8 = b ∨ wt.heap.size ≤ g8 := by
          rcases hat8 with h | h
          · exact .inl (rb g8 h)
          · exact .inr (by rw [h]; exact BB.out.size)
        have HO8 := Lib.hid ho8
        clear ho8 hg8 hat8 rb NB
        refine hK.out _ _ ⟨K8.out.two.1.1, K8.out.two.1.2⟩ ?_
        clear hK K
        refine T_step (i := 7) rfl (by kernel_rfl) rfl (by kernel_rfl) ?_
        intro K hK
        have hnw := row_news O8.out (by rw [HL12.out.1, HL12.out.2]) HL12.out.2 0
        rw [List.drop_zero, List.drop_zero, Nat.zero_mul] at hnw
        refine wp_rats _ _ (by rfl) base (.slice (some ⟨g8, 0, none⟩) (k + 1) c8) (k + 1) _ rfl HO8.out ⟨g7, 0, none⟩ (l.length - k) c7 (us.drop k) (l.drop k) HL12.out.1 HL12.out.2 rfl hnw (fun x hx => UO.out x (List.mem_of_mem_drop hx)) (by omega) (by omega) (Nat.le_trans (Nat.le_trans hbm hm) (Nat.le_trans hwl G8.out.size)) ?_
        intro g9 c9 w9 ho9 hg9 hat9
        clear hnw
        have rb : ∀ q, (Value.slice (some ⟨g8, 0, none⟩) (k + 1) c8).ownBlock = some q → q = g8 := fun q hq => by simp [Value.ownBlock] at hq; omega
        have K9 := Lib.hid (K8.out.grown hg9 (fun e => by have := rb _ e.symm; have := BT.out.size; rcases hg8' with h | h <;> omega))
        have G9 := Lib.hid (show wt.grownBy w9 (some b) from grown_trans G8.out hg9 (fun q hq => by
          have := rb q hq
          rcases hg8' with h | h
          · exact .inl (by rw [this, h])
          · exact .inr (by omega)))
        have hg9' : b = g9 ∨ wt.heap.size ≤ g9 := by
          rcases hat9 with h | h
          · have := rb g9 h
            rcases hg8' with h | h
            · exact .inl (by omega)
            · exact .inr (by omega)
          · exact .inr (by rw [h]; exact G8.out.size)
        have e9 : (flat us l).take (k * 2) ++ flat [u] [p] ++ flat (us.drop k) (l.drop k) = flat (us.take k ++ u :: us.drop k) (l.take k ++ p :: l.drop k) := by
          rw [flat_take _ _ _ US.out.1, flat_app (us.take k) (l.take k) (u :: us.drop k) (p :: l.drop k) (by rw [List.length_take, List.length_take, US.out.1])]
          simp [flat]
        have n9 : k + 1 + (l.length - k) = l.length + 1 := by omega
        rw [e9, n9] at ho9
        have HO9 := Lib.hid ho9
        clear ho9 hg9 hat9 rb e9
        rw [n9]
        refine hK.out _ _ ⟨K9.out.two.1.1, K9.out.two.1.2⟩ ?_
        clear hK K n9
        refine T_last (i := 8) rfl (by kernel_rfl) (by kernel_rfl) rfl rfl ?_
        go_simp
        go_wp2
        go_ret
        have hat := Lib.hid (show ∀ q, (Value.slice (some ⟨g9, 0, none⟩) (l.length + 1) c9).ownBlock = some q → (Value.slice (some ⟨b, 0, none⟩) l.length vc).ownBlock = some q ∨ wt.heap.size ≤ q from fun q hq => by
          have : g9 = q := by simpa [Value.ownBlock] using hq
          rcases hg9' with h | h
          · exact .inl (by rw [show b = q by omega]; rfl)
          · exact .inr (by omega))
        refine put_mk ES.out ⟨⟨_, rfl, OwH.insert (UT.out.mono (Nat.le_refl _) hwl) hbm (Nat.le_trans hm hwl) US.out k3 k hk HO9.out G9.out hat.out, fun q hq => (hat.out q hq).imp id (Nat.le_trans hwl)⟩, grown_trans (grown_below BA.out) G9.out (fun q hq => .inl hq)⟩
      · obtain rfl : l = [] := List.eq_nil_of_length_eq_zero (by omega)
        obtain rfl : us = [] := List.eq_nil_of_length_eq_zero US.out.1
        obtain rfl : k = 0 := by omega
        rcases US.out.2.1.2 with ⟨h, _⟩ | ⟨g, cp, cr, h, _, _, h2, _⟩
        · simp only [Value.slice.injEq] at h
          obtain ⟨rfl, _, rfl⟩ := h
          have RM := Lib.hid (World.ownsRow_made wt (base := wt.heap.size) (e := 63) (size := 2) #[] 0 (Nat.le_refl _) (by unfold maxLen; omega) rfl)
          go_wp2_with (first | (at_builtin; refine list_none rfl _ _ rfl wt.heap.size (.slice (some ⟨wt.heap.size, 0, none⟩) 0 0) 0 [] rfl RM.out _ _ rfl ?_))
          refine wgenv ?_
          intro w7 hw7
          have B7 := Lib.hid (show Below wt.heap.size wt w7 by rw [hw7]; exact below1 wt _)
          clear hw7
          have K7 := Lib.hid (KT.out.below B7.out)
          obtain ⟨⟨p0, p1⟩, -⟩ := K7.out.two
          refine T_begin (z := fun q => 7 < q) (S := fun (w' : World) => w'.cell? ⟨w.heap.size, 0, none⟩ = some u ∧ w'.cell? ⟨w.heap.size, 1, none⟩ = some (.int .i64 p.2)) (by kernel_rfl) ?_
          show wpAnyT _ _ _ _ _ _ 9 _ _ _
          have hS0 := Lib.hid (show (fun (w' : World) => w'.cell? ⟨w.heap.size, 0, none⟩ = some u ∧ w'.cell? ⟨w.heap.size, 1, none⟩ = some (.int .i64 p.2)) _ from ⟨p0, p1⟩)
          refine T_take (i := 0) (v := .slice none 0 0) rfl (by kernel_rfl) (by kernel_rfl) (by kernel_rfl) (by kernel_rfl) (fun _ _ _ h => h) hS0.out (by kernel_rfl) (fun w' hS' => by (try dsimp only at hS'); go_simp) ?_
          refine T_take (i := 1) (v := .int .i64 (0 : Nat)) rfl (by kernel_rfl) (by kernel_rfl) (by kernel_rfl) (by kernel_rfl) (fun _ _ _ h => h) hS0.out (by kernel_rfl) (fun w' hS' => by (try dsimp only at hS'); go_simp) ?_
          refine T_take (i := 2) (v := .slice none 0 0) rfl (by kernel_rfl) (by kernel_rfl) (by kernel_rfl) (by kernel_rfl) (fun _ _ _ h => h) hS0.out (by kernel_rfl) (fun w' hS' => by (try dsimp only at hS'); go_simp) ?_
          refine T_take (i := 3) (v := .agg #[u, .int .i64 p.2]) rfl (by kernel_rfl) (by kernel_rfl) (by kernel_rfl) (by kernel_rfl) (fun _ _ _ h => h) hS0.out (by kernel_rfl) (fun w' hS' => by (try dsimp only at hS'); go_simp) ?_
          refine T_take (i := 6) (v := .slice (some ⟨wt.heap.size, 0, none⟩) 0 0) rfl (by kernel_rfl) (by kernel_rfl) (by kernel_rfl) (by kernel_rfl) (fun _ _ _ h => h) hS0.out (by kernel_rfl) (fun w' hS' => by (try dsimp only at hS'); go_simp) ?_
          refine T_step (i := 4) rfl (by kernel_rfl) rfl (by kernel_rfl) ?_
          intro K hK
          go_simp
          refine hK.out _ _ ⟨(K7.out.below (below1 w7 _)).two.1.1, (K7.out.below (below1 w7 _)).two.1.2⟩ ?_
          clear hK K hS0 p0 p1
          refine T_step (i := 5) rfl (by kernel_rfl) rfl (by kernel_rfl) ?_
          intro K hK
          have b7 := (below1 w7 (.cells #[u, .int .i64 p.2] 63)).drew
          have BB := Lib.hid (B7.out.trans (b7.mono B7.out.size))
          have KB := Lib.hid (K7.out.below b7)
          have NB := Lib.hid (World.news_of_block (cs := #[u, .int .i64 p.2]) (show (w7.alloc (.cells #[u, .int .i64 p.2] 63)).drew.heap[w7.heap.size]? = some (.cells #[u, .int .i64 p.2] 63 (0, 0)) from heap_alloc_new w7 _))
          clear b7
          refine wp_rats _ _ (by rfl) base (.slice none 0 0) 0 (flat [] []) rfl (owns2_below US.out.2.1 BB.out) ⟨w7.heap.size, 0, none⟩ 1 1 [u] [p] rfl rfl rfl NB.out (fun x hx => by rw [List.mem_singleton.1 hx]; exact own_one UT.out) (by omega) (by omega) (Nat.le_trans (Nat.le_trans hbm hm) (Nat.le_trans hwl BB.out.size)) ?_
          intro g8 c8 w8 ho8 hg8 hat8
          have K8 := Lib.hid (KB.out.grown hg8 (fun e => by have := k3 _ e.symm; omega))
          have G8 := Lib.hid (show wt.grownBy w8 (Value.ownBlock (.slice none 0 0)) from grown_trans ⟨BB.out.os, BB.out.tape, BB.out.output, BB.out.size, fun q hq _ => BB.out.block q hq⟩ hg8 (fun q hq => .inl hq))
          have hat := Lib.hid (show ∀ q, (Value.slice (some ⟨g8, 0, none⟩) (0 + 1) c8).ownBlock = some q → (Value.ownBlock (.slice none 0 0)) = some q ∨ wt.heap.size ≤ q from fun q hq => by
            have e : g8 = q := by simpa [Value.ownBlock] using hq
            rcases hat8 with h | h
            · exact .inl (by rw [h, e])
            · exact .inr (by rw [← e, h]; exact BB.out.size))
          have HO8 := Lib.hid ho8
          clear ho8 hg8 hat8 NB
          refine hK.out _ _ ⟨K8.out.two.1.1, K8.out.two.1.2⟩ ?_
          clear hK K
          refine T_step (i := 7) rfl (by kernel_rfl) rfl (by kernel_rfl) ?_
          intro K hK
          refine wp_none _ _ (by rfl) base (.slice (some ⟨g8, 0, none⟩) (0 + 1) c8) (0 + 1) _ rfl HO8.out _ _ rfl ?_
          refine hK.out _ _ ⟨K8.out.two.1.1, K8.out.two.1.2⟩ ?_
          clear hK K
          refine T_last (i := 8) rfl (by kernel_rfl) (by kernel_rfl) rfl rfl ?_
          go_simp
          go_wp2
          go_ret
          refine put_mk ES.out ⟨⟨_, rfl, OwH.insert (UT.out.mono (Nat.le_refl _) hwl) hbm (Nat.le_trans hm hwl) US.out k3 0 (Nat.le_refl _) ?_ G8.out hat.out, fun q hq => (hat.out q hq).imp id (Nat.le_trans hwl)⟩, grown_trans (grown_below BA.out) G8.out (fun q hq => .inl hq)⟩
          exact HO8.out
        · simp only [Value.slice.injEq] at h
          obtain ⟨rfl, _, rfl⟩ := h
          have RM := Lib.hid (World.ownsRow_made wt (base := wt.heap.size) (e := 63) (size := 2) #[] 0 (Nat.le_refl _) (by unfold maxLen; omega) rfl)
          go_wp2_with (first | (at_builtin; refine list_none rfl _ _ rfl wt.heap.size (.slice (some ⟨wt.heap.size, 0, none⟩) 0 0) 0 [] rfl RM.out _ _ rfl ?_))
          refine wgenv ?_
          intro w7 hw7
          have B7 := Lib.hid (show Below wt.heap.size wt w7 by rw [hw7]; exact below1 wt _)
          clear hw7
          have K7 := Lib.hid (KT.out.below B7.out)
          obtain ⟨⟨p0, p1⟩, -⟩ := K7.out.two
          refine T_begin (z := fun q => 7 < q) (S := fun (w' : World) => w'.cell? ⟨w.heap.size, 0, none⟩ = some u ∧ w'.cell? ⟨w.heap.size, 1, none⟩ = some (.int .i64 p.2)) (by kernel_rfl) ?_
          show wpAnyT _ _ _ _ _ _ 9 _ _ _
          have hS0 := Lib.hid (show (fun (w' : World) => w'.cell? ⟨w.heap.size, 0, none⟩ = some u ∧ w'.cell? ⟨w.heap.size, 1, none⟩ = some (.int .i64 p.2)) _ from ⟨p0, p1⟩)
          refine T_take (i := 0) (v := .slice (some ⟨g, 0, none⟩) 0 vc) rfl (by kernel_rfl) (by kernel_rfl) (by kernel_rfl) (by kernel_rfl) (fun _ _ _ h => h) hS0.out (by kernel_rfl) (fun w' hS' => by (try dsimp only at hS'); go_simp) ?_
          refine T_take (i := 1) (v := .int .i64 (0 : Nat)) rfl (by kernel_rfl) (by kernel_rfl) (by kernel_rfl) (by kernel_rfl) (fun _ _ _ h => h) hS0.out (by kernel_rfl) (fun w' hS' => by (try dsimp only at hS'); go_simp) ?_
          refine T_take (i := 2) (v := .slice (some ⟨g, 0, none⟩) 0 vc) rfl (by kernel_rfl) (by kernel_rfl) (by kernel_rfl) (by kernel_rfl) (fun _ _ _ h => h) hS0.out (by kernel_rfl) (fun w' hS' => by (try dsimp only at hS'); go_simp) ?_
          refine T_take (i := 3) (v := .agg #[u, .int .i64 p.2]) rfl (by kernel_rfl) (by kernel_rfl) (by kernel_rfl) (by kernel_rfl) (fun _ _ _ h => h) hS0.out (by kernel_rfl) (fun w' hS' => by (try dsimp only at hS'); go_simp) ?_
          refine T_take (i := 6) (v := .slice (some ⟨wt.heap.size, 0, none⟩) 0 0) rfl (by kernel_rfl) (by kernel_rfl) (by kernel_rfl) (by kernel_rfl) (fun _ _ _ h => h) hS0.out (by kernel_rfl) (fun w' hS' => by (try dsimp only at hS'); go_simp) ?_
          refine T_step (i := 4) rfl (by kernel_rfl) rfl (by kernel_rfl) ?_
          intro K hK
          go_simp
          refine hK.out _ _ ⟨(K7.out.below (below1 w7 _)).two.1.1, (K7.out.below (below1 w7 _)).two.1.2⟩ ?_
          clear hK K hS0 p0 p1
          refine T_step (i := 5) rfl (by kernel_rfl) rfl (by kernel_rfl) ?_
          intro K hK
          have b7 := (below1 w7 (.cells #[u, .int .i64 p.2] 63)).drew
          have BB := Lib.hid (B7.out.trans (b7.mono B7.out.size))
          have KB := Lib.hid (K7.out.below b7)
          have NB := Lib.hid (World.news_of_block (cs := #[u, .int .i64 p.2]) (show (w7.alloc (.cells #[u, .int .i64 p.2] 63)).drew.heap[w7.heap.size]? = some (.cells #[u, .int .i64 p.2] 63 (0, 0)) from heap_alloc_new w7 _))
          clear b7
          refine wp_rats _ _ (by rfl) base (.slice (some ⟨g, 0, none⟩) 0 vc) 0 (flat [] []) rfl (owns2_below US.out.2.1 BB.out) ⟨w7.heap.size, 0, none⟩ 1 1 [u] [p] rfl rfl rfl NB.out (fun x hx => by rw [List.mem_singleton.1 hx]; exact own_one UT.out) (by omega) (by omega) (Nat.le_trans (Nat.le_trans hbm hm) (Nat.le_trans hwl BB.out.size)) ?_
          intro g8 c8 w8 ho8 hg8 hat8
          have K8 := Lib.hid (KB.out.grown hg8 (fun e => by have := k3 _ e.symm; omega))
          have G8 := Lib.hid (show wt.grownBy w8 (Value.ownBlock (.slice (some ⟨g, 0, none⟩) 0 vc)) from grown_trans ⟨BB.out.os, BB.out.tape, BB.out.output, BB.out.size, fun q hq _ => BB.out.block q hq⟩ hg8 (fun q hq => .inl hq))
          have hat := Lib.hid (show ∀ q, (Value.slice (some ⟨g8, 0, none⟩) (0 + 1) c8).ownBlock = some q → (Value.ownBlock (.slice (some ⟨g, 0, none⟩) 0 vc)) = some q ∨ wt.heap.size ≤ q from fun q hq => by
            have e : g8 = q := by simpa [Value.ownBlock] using hq
            rcases hat8 with h | h
            · exact .inl (by rw [h, e])
            · exact .inr (by rw [← e, h]; exact BB.out.size))
          have HO8 := Lib.hid ho8
          clear ho8 hg8 hat8 NB
          refine hK.out _ _ ⟨K8.out.two.1.1, K8.out.two.1.2⟩ ?_
          clear hK K
          refine T_step (i := 7) rfl (by kernel_rfl) rfl (by kernel_rfl) ?_
          intro K hK
          refine wp_none _ _ (by rfl) base (.slice (some ⟨g8, 0, none⟩) (0 + 1) c8) (0 + 1) _ rfl HO8.out _ _ rfl ?_
          refine hK.out _ _ ⟨K8.out.two.1.1, K8.out.two.1.2⟩ ?_
          clear hK K
          refine T_last (i := 8) rfl (by kernel_rfl) (by kernel_rfl) rfl rfl ?_
          go_simp
          go_wp2
          go_ret
          refine put_mk ES.out ⟨⟨_, rfl, OwH.insert (UT.out.mono (Nat.le_refl _) hwl) hbm (Nat.le_trans hm hwl) US.out k3 0 (Nat.le_refl _) ?_ G8.out hat.out, fun q hq => (hat.out q hq).imp id (Nat.le_trans hwl)⟩, grown_trans (grown_below BA.out) G8.out (fun q hq => .inl hq)⟩
          exact HO8.out
end Go.Proofs.Ytckpifcdlmfabaa
/- The model's choices of halves: what they leave, in plain facts; a list of halves that is copied and made longer. -/
namespace Go.Proofs.Ytckpifcdlmfabaa
open Go.RowKit Go.Lib

theorem put_len (l : List Hf) (p : Hf) : (putQ l p).length ≤ l.length + 1 := by
  unfold putQ
  simp only
  split
  · omega
  · have := downQ_le l p l.length
    simp only [List.length_append, List.length_take, List.length_cons, List.length_drop]
    omega
theorem fold_len : ∀ (ps l : List Hf), (ps.foldl putQ l).length ≤ l.length + ps.length
  | [], l => Nat.le_refl _
  | p :: ps, l => by
    have h1 := fold_len ps (putQ l p)
    have h2 := put_len l p
    rw [List.foldl_cons, List.length_cons]
    omega
/-- The points of all choices of d more halves from place k on, put one by one. -/
def ansQ (n : Int) (hs : List Hf) (d k : Nat) (pre l : List Hf) : List Hf := (ptsQ n hs ((chooseL d (hs.drop k)).map fun c => pre ++ c)).foldl putQ l
def cntQ (hs : List Hf) (d k : Nat) : Nat := (chooseL d (hs.drop k)).length
theorem ans_step {n : Int} {hs : List Hf} {d k : Nat} {pre l : List Hf} (h : k < hs.length) : ansQ n hs (d + 1) k pre l = ansQ n hs (d + 1) (k + 1) pre (ansQ n hs d (k + 1) (pre ++ [hs[k]]) l) := by
  unfold ansQ ptsQ
  rw [choose_drop h, List.map_append, List.filterMap_append, List.foldl_append, List.map_map]
  congr 3
  refine List.map_congr_left fun c _ => ?_
  simp [Function.comp_apply]
theorem ans_end {n : Int} {hs : List Hf} {d : Nat} {pre l : List Hf} : ansQ n hs (d + 1) hs.length pre l = l := by
  unfold ansQ ptsQ
  rw [choose_end]
  rfl
theorem ans_yes {n : Int} {hs : List Hf} {k : Nat} {pre l : List Hf} (h1 : (solveQ pre).2 = true) (h2 : hasQ n hs (solveQ pre).1 = true) : ansQ n hs 0 k pre l = putQ l (solveQ pre).1 := by
  unfold ansQ ptsQ
  simp only [chooseL, List.map_cons, List.map_nil, List.append_nil, List.filterMap_cons, List.filterMap_nil, keepQ, if_pos (And.intro h1 h2), List.foldl_cons, List.foldl_nil]
theorem ans_no {n : Int} {hs : List Hf} {k : Nat} {pre l : List Hf} (h : ¬ ((solveQ pre).2 = true ∧ hasQ n hs (solveQ pre).1 = true)) : ansQ n hs 0 k pre l = l := by
  unfold ansQ ptsQ
  simp only [chooseL, List.map_cons, List.map_nil, List.append_nil, List.filterMap_cons, List.filterMap_nil, keepQ, if_neg h, List.foldl_nil]
theorem ans_len {n : Int} {hs : List Hf} {d k : Nat} {pre l : List Hf} : (ansQ n hs d k pre l).length ≤ l.length + cntQ hs d k := by
  have h1 := fold_len (ptsQ n hs ((chooseL d (hs.drop k)).map fun c => pre ++ c)) l
  have h2 := pts_len n hs ((chooseL d (hs.drop k)).map fun c => pre ++ c)
  rw [List.length_map] at h2
  unfold ansQ cntQ
  omega
theorem cnt_step {hs : List Hf} {d k : Nat} (h : k < hs.length) : cntQ hs (d + 1) k = cntQ hs d (k + 1) + cntQ hs (d + 1) (k + 1) := by
  unfold cntQ
  rw [choose_drop h, List.length_append, List.length_map]
theorem ans_vert {n : Int} {hs : List Hf} (h : regOk n hs = true) : vertQ n hs = ansQ n hs n.toNat 0 [] [] := by
  unfold vertQ ansQ
  rw [if_pos h]
  simp

/-- A row of halves whose normals read reads as the halves. -/
theorem hs_of_row {w : World} {base : Nat} {T : TypeId} {g n c : Nat} {us : List Value} {hs : List Hf} (h : w.ownsRow base T 2 (.slice (some ⟨g, 0, none⟩) n c) n (flat us hs)) (hl : us.length = hs.length) (hn : hs.length = n)
    (hr : ∀ (i : Nat) u x, us[i]? = some u → hs[i]? = some x → Sl w u (intVals x.1)) : Hs w (.slice (some ⟨g, 0, none⟩) n c) hs := by
  subst hn
  have hlt := h.lt g rfl
  have hm : hs.length ≤ c ∧ c ≤ maxLen := by
    rcases h.2 with ⟨e, _⟩ | ⟨_, _, _, e, _, _, h2, h3, _⟩
    · cases e
    · simp only [Value.slice.injEq] at e
      obtain ⟨_, _, rfl⟩ := e
      exact ⟨h2, h3⟩
  refine ⟨_, _, rfl, by omega, fun i x hx => ?_⟩
  have hi := lt_of_get hx
  have hu : us[i]? = some us[i] := List.getElem?_eq_getElem (by omega)
  refine ⟨g, 0, us[i], rfl, hm.1, hlt.2, ?_, ?_, hr i _ x hu hx⟩
  · rw [Nat.zero_add, h.cellAt (i * 2) (by omega), flat_get0 us hs i hl, hu]
  · rw [Nat.zero_add, h.cellAt (i * 2 + 1) (by omega), flat_get1 us hs i hl, hx]; rfl
/-- The cells of halves that read. -/
theorem hs_cells {w : World} {b off n c : Nat} {hs : List Hf} (h : Hs w (.slice (some ⟨b, off, none⟩) n c) hs) : ∃ us : List Value, us.length = hs.length ∧ (∀ (i : Nat) u x, us[i]? = some u → hs[i]? = some x → Sl w u (intVals x.1)) ∧
    ∀ j u, (flat us hs)[j]? = some u → w.cell? ((⟨b, off, none⟩ : Addr).add j) = some u := by
  have each : ∀ i, i < hs.length → ∃ u : Value, w.cell? ⟨b, off + i * 2, none⟩ = some u ∧ (∃ x, hs[i]? = some x ∧ w.cell? ⟨b, off + i * 2 + 1, none⟩ = some (.int .i64 x.2) ∧ Sl w u (intVals x.1)) := by
    intro i hi
    obtain ⟨b', o', u, e, _, _, h1, h2, h3⟩ := h.half i hi rfl
    simp only [Option.some.injEq, Addr.mk.injEq, and_true] at e
    obtain ⟨rfl, rfl⟩ := e
    exact ⟨u, h1, _, List.getElem?_eq_getElem hi, h2, h3⟩
  obtain ⟨U, hU⟩ := Go.Deep.choose_lt each
  have hlen : ((List.range hs.length).map U).length = hs.length := by simp
  have hget : ∀ (i : Nat) u, ((List.range hs.length).map U)[i]? = some u → u = U i ∧ i < hs.length := by
    intro i u hu
    have hi := lt_of_get hu
    rw [hlen] at hi
    rw [List.getElem?_map, List.getElem?_range hi] at hu
    exact ⟨(Option.some.inj hu).symm, hi⟩
  refine ⟨(List.range hs.length).map U, hlen, fun i u x hu hx => ?_, fun j u hu => ?_⟩
  · obtain ⟨rfl, hi⟩ := hget i u hu
    obtain ⟨_, y, hy, _, h3⟩ := hU i hi
    rw [hx] at hy
    obtain rfl := Option.some.inj hy
    exact h3
  · have hadd : (⟨b, off, none⟩ : Addr).add j = ⟨b, off + j, none⟩ := by
      unfold Addr.add
      split
      · simp_all
      · rfl
    rw [hadd]
    have hj := lt_of_get hu
    rw [flat_len _ _ hlen] at hj
    obtain ⟨h1, y, hy, h2, _⟩ := hU (j / 2) (by omega)
    by_cases h0 : j % 2 = 0
    · have e : j = (j / 2) * 2 := by omega
      rw [e, flat_get0 _ hs _ hlen] at hu
      rw [e, h1, (hget _ _ hu).1]
    · have e : j = (j / 2) * 2 + 1 := by omega
      rw [e, flat_get1 _ hs _ hlen, hy] at hu
      rw [e, ← Nat.add_assoc, h2]
      simpa using hu
theorem hs_one {w : World} {v : Value} {xs : List Int} (h : Sl w v (intVals xs)) : v.oneCell' = true := by
  obtain ⟨a, c, rfl, _⟩ := h.shape
  rfl
/-- append(halves, others...), append(halves, none...) at an operation. -/
theorem wp_halves {o : Oper} {a : Act} {w : World} {K : Act → World → Prop} {Q : Exit → Act → World → Prop} (s x : Operand)
    (ho : o.op = .call { callee := .builtin .append, args := #[s, x], argTypes := #[28, 28] })
    (base : Nat) (v : Value) (n : Nat) (xs : List Value) (hv : a.eval s = v) (hown : w.ownsRow base 99 2 v n xs) (ad : Addr) (m c : Nat) (us : List Value) (hs : List Hf) (h1 : us.length = m) (h2 : hs.length = m)
    (hx : a.eval x = .slice (some ad) m c) (hnews : ∀ j u, (flat us hs)[j]? = some u → w.cell? (ad.add j) = some u) (hus : ∀ u ∈ us, u.oneCell' = true) (hm : 0 < m) (hn : n + m ≤ 1099511627776) (hbase : base ≤ w.heap.size)
    (h : ∀ g cap w', w'.ownsRow base 99 2 (.slice (some ⟨g, 0, none⟩) (n + m) cap) (n + m) (xs ++ flat us hs) → w.grownBy w' v.ownBlock → (v.ownBlock = some g ∨ g = w.heap.size) → K (a.put o.dst (.slice (some ⟨g, 0, none⟩) (n + m) cap)) w') : o.wp Try.prog a w K Q := by
  obtain ⟨i0, hi, hz0, hz1, hz2⟩ := info_parts info_half
  have hone : ∀ (us : List Value) (hs : List Hf), (∀ u ∈ us, u.oneCell' = true) → ∀ q ∈ flat us hs, q.oneCell' = true := by
    intro us
    induction us with
    | nil => intro hs _ q hq; simp [flat] at hq
    | cons y us ih =>
      intro hs hu q hq
      match hs with
      | [] => simp [flat] at hq
      | k :: hs =>
        simp only [flat, List.mem_cons] at hq
        rcases hq with rfl | rfl | hq
        · exact hu _ (List.mem_cons_self ..)
        · rfl
        · exact ih hs (fun z hz => hu z (List.mem_cons_of_mem _ hz)) q hq
  exact wp_append_lies w s x 28 ho base 99 i0 _ 2 32 Try.underlying28 hi hz0 hz1 hz2 rfl (by omega) v n xs hv hown ad m c (flat us hs) hx (by rw [flat_len _ _ (by rw [h1, h2]), h2]) hnews (hone us hs hus) hm (by unfold maxLen; omega) (by omega) hbase w.heap.size rfl fun g cap w' k1 k2 k3 _ => h g cap w' k1 k2 k3
theorem wp_nonehalf {o : Oper} {a : Act} {w : World} {K : Act → World → Prop} {Q : Exit → Act → World → Prop} (s x : Operand)
    (ho : o.op = .call { callee := .builtin .append, args := #[s, x], argTypes := #[28, 28] })
    (base : Nat) (v : Value) (n : Nat) (xs : List Value) (hv : a.eval s = v) (hown : w.ownsRow base 99 2 v n xs) (ad : Option Addr) (c : Nat) (hx : a.eval x = .slice ad 0 c) (h : K (a.put o.dst v) w) : o.wp Try.prog a w K Q := by
  obtain ⟨i0, hi, _⟩ := info_parts info_half
  have hr := run_none (w := w) base 28 o.type 99 i0 2 Try.underlying28 hi v n xs hown ad c
  unfold Oper.wp execOp
  simp only [ho, resolve, invoke, builtin, Sem.run_bind, Sem.run_pure, Result.andThen_ok, List.map_toArray, List.map_cons, List.map_nil, hv, hx, hr]
  exact h
end Go.Proofs.Ytckpifcdlmfabaa
/- The model's l6Choose: all choices of halves, each one's point put among the points. -/
namespace Go.Proofs.Ytckpifcdlmfabaa
open Go.RowKit Go.Lib

/-- The halves of a region, as the choices want them. -/
def RegC (n : Nat) (r : Rgn) : Prop := r.1 = n ∧ 1 ≤ n ∧ n ≤ 3 ∧ ∀ h ∈ r.2, h.1.length = n ∧ Bd h.1 200 ∧ -200 ≤ h.2 ∧ h.2 ≤ 200
theorem RegC.ch {n : Nat} {r : Rgn} {pre : List Hf} (h : RegC n r) (hl : pre.length = n) (hp : ∀ x ∈ pre, x ∈ r.2) : ChOk n pre := ⟨hl, fun x hx => h.2.2.2 x (hp x hx)⟩

set_option maxRecDepth 100000 in
set_option maxHeartbeats 4000000 in
theorem s_choose0 (n : Nat) (r : Rgn) (hr : RegC n r) (pre l : List Hf) (hl : pre.length = n) (hp : ∀ x ∈ pre, x ∈ r.2) (k base : Nat) (f : Int) (rv pv lv : Value) (w : World) (hrv : Rg w rv r) (hpv : Hs w pv pre) (ho : OwH 63 3 base w.heap.size w lv l) (hb : base ≤ w.heap.size) (hn : l.length ≤ 1048576) :
    Calls Try.prog 46 #[rv, .int .i64 f, pv, lv] w (PutH base w lv (ansQ r.1 r.2 0 k pre l)) := by
  have HR := Lib.hid hrv
  have HV := Lib.hid hpv
  have HO := Lib.hid ho
  obtain ⟨u, rfl, hu⟩ := hrv
  obtain ⟨pa, pc, rfl, hpm⟩ := hpv.shape
  unfold maxLen at hpm
  have hd : (pre.length : Int) = r.1 := by rw [hl, hr.1]
  have HC := Lib.hid (hr.ch hl hp)
  have HRC := Lib.hid hr
  have B0 := Lib.hid (below1 w (.cells #[.int .i64 r.1, u] 30))
  have K0 := Lib.hid (Bk.new w #[.int .i64 r.1, u] 30)
  obtain ⟨⟨q, ok⟩, hR⟩ : ∃ R, solveQ pre = R := ⟨_, rfl⟩
  have ES := Lib.hid hR
  have HD := Lib.hid hd
  clear hu hpv ho hr hp hl hR hd
  go_enter Try.func46, Try.ntmps46
  have hd := HD.out
  go_wp2_with fail
  clear hd
  refine (s_solve n pre HRC.out.2.1 HRC.out.2.2.1 HC.out _ _ (HV.out.below B0.out)).mono ?_
  rintro e w2 ⟨⟨pv, rfl, hpo⟩, hb2⟩
  rw [ES.out] at hpo ⊢
  obtain ⟨y, rfl, hy⟩ := hpo
  have hs0 : (w.alloc (.cells #[.int .i64 r.1, u] 30)).heap.size = w.heap.size + 1 := World.size_alloc ..
  obtain ⟨ya, yc, rfl, _⟩ := hy.shape1
  have HY := Lib.hid hy
  have HB2 := Lib.hid hb2
  have B2 := Lib.hid (B0.out.trans (hb2.mono B0.out.size))
  have K2 := Lib.hid (K0.out.below hb2)
  have hk2 : w.heap.size < w2.heap.size := K2.out.lt
  have Q2 := Lib.hid (Bk.new w2 #[.slice ya (intVals q.1).length yc, .int .i64 q.2] 63)
  have hw2 : w.heap.size + 1 ≤ w2.heap.size := by omega
  clear hy hb2 hs0
  cases ok
  case false =>
    have EN := Lib.hid (ans_no (n := r.1) (hs := r.2) (k := k) (pre := pre) (l := l) (by rw [ES.out]; simp))
    go_wp2
    have BX := B2.out.trans ((below1 w2 (.cells #[.slice ya (intVals q.1).length yc, .int .i64 q.2] 63)).mono B2.out.size)
    go_ret
    exact put_mk EN.out ⟨⟨_, rfl, (HO.out.below BX).mono (Nat.le_refl _) BX.size, fun _ h => .inl h⟩, grown_below BX⟩
  case true =>
    have K3 := Lib.hid (K2.out.below (below1 w2 (.cells #[.slice ya (intVals q.1).length yc, .int .i64 q.2] 63)))
    have BX := Lib.hid (B2.out.trans ((below1 w2 (.cells #[.slice ya (intVals q.1).length yc, .int .i64 q.2] 63)).mono B2.out.size))
    have HY3 := Lib.hid (HY.out.below (below1 w2 (.cells #[.slice ya (intVals q.1).length yc, .int .i64 q.2] 63)))
    obtain ⟨⟨l0, l1⟩, -⟩ := K2.out.two
    go_wp2_with fail
    refine (s_hasq r q _ _ _ (HR.out.below BX.out) ⟨_, rfl, HY3.out.sl⟩).mono ?_
    rintro e w4 ⟨rfl, hb4⟩
    clear l0 l1
    have B4 := Lib.hid (BX.out.trans (hb4.mono BX.out.size))
    have Q4 := Lib.hid (Q2.out.below hb4)
    have HY4 := Lib.hid (HY3.out.below hb4)
    have hsz4 : w2.heap.size < w4.heap.size := Q4.out.lt
    clear hb4
    by_cases hh : hasQ r.1 r.2 q = true
    · have EN := Lib.hid (ans_yes (n := r.1) (hs := r.2) (k := k) (pre := pre) (l := l) (by rw [ES.out]) (by rw [ES.out]; exact hh))
      obtain ⟨⟨m0, m1⟩, -⟩ := Q4.out.two
      go_wp2_with fail
      refine (s_put l q _ _ base (w.alloc (.cells #[.int .i64 r.1, u] 30)).heap.size w4 ((HO.out.below B4.out).mono (Nat.le_refl _) (by rw [World.size_alloc]; omega)) ⟨_, rfl, HY4.out.mono (Nat.le_refl _) (by omega)⟩ (by rw [World.size_alloc]; omega) (by rw [World.size_alloc]; omega) hn).mono ?_
      rintro e w5 ⟨⟨v, rfl, hv, ha⟩, hb5⟩
      have HAT := Lib.hid (fun q hq => (ha q hq).imp id (Nat.le_trans B4.out.size))
      have HV5 := Lib.hid hv
      have HB5 := Lib.hid hb5
      clear m0 m1 hv hb5 ha
      go_wp2
      go_ret
      exact put_mk (EN.out.trans (by rw [ES.out])) ⟨⟨_, rfl, HV5.out, HAT.out⟩, grown_trans (grown_below B4.out) HB5.out (fun q hq => .inl hq)⟩
    · have EN := Lib.hid (ans_no (n := r.1) (hs := r.2) (k := k) (pre := pre) (l := l) (by rw [ES.out]; exact fun c => hh c.2))
      go_wp2
      go_ret
      exact put_mk EN.out ⟨⟨_, rfl, (HO.out.below B4.out).mono (Nat.le_refl _) B4.out.size, fun _ h => .inl h⟩, grown_below B4.out⟩
end Go.Proofs.Ytckpifcdlmfabaa
/- The model's l6Choose: all choices of halves, each one's point put among the points. -/
namespace Go.Proofs.Ytckpifcdlmfabaa
open Go.RowKit Go.Lib

theorem T_wg {P : Program} {md : Region.Mode} {ops : Array Oper} {Q : Exit → Act → World → Prop} {S : World → Prop} {z : Nat → Bool} {f : Nat} {listed : Array Bool} {a : Act} {w : World} (h : ∀ W, W = w → wpAnyT P md ops Q S z f listed a W) : wpAnyT P md ops Q S z f listed a w := h w rfl
/-- Two numbers may come up. -/
theorem T_two2 {P : Program} {md : Region.Mode} {ops : Array Oper} {Q : Exit → Act → World → Prop} {S : World → Prop} {z : Nat → Bool} {i j : Nat} {oi oj : Oper} {f : Nat} {listed : Array Bool} {a : Act} {w : World} (hi : ops[i]? = some oi) (hj : ops[j]? = some oj) (hr : Region.ready md ops listed = [i, j]) (_hiz : z i = false) (_hjz : z j = false) (hwi : Region.wanted oi (yielded ops a.tmps) = true) (hwj : Region.wanted oj (yielded ops a.tmps) = true)
    (h1 : ∀ K : Act → World → Prop, Shut (∀ a' w', S w' → wpAnyT P md ops Q S z f (listed.setIfInBounds i true) a' w' → K a' w') → Oper.wp P oi a w K Q)
    (h2 : ∀ K : Act → World → Prop, Shut (∀ a' w', S w' → wpAnyT P md ops Q S z f (listed.setIfInBounds j true) a' w' → K a' w') → Oper.wp P oj a w K Q) : wpAnyT P md ops Q S z (f + 1) listed a w := by
  refine ⟨fun h0 => (by rw [hr] at h0; cases h0), fun q hq => ?_⟩
  rw [hr] at hq
  rcases List.mem_cons.1 hq with rfl | hq
  · unfold wpOp
    rw [hi]
    simp only [hwi, if_true]
    exact .inl (h1 _ fun a' w' hS h => ⟨fun _ => hS, h⟩)
  · obtain rfl := List.mem_singleton.1 hq
    unfold wpOp
    rw [hj]
    simp only [hwj, if_true]
    exact .inl (h2 _ fun a' w' hS h => ⟨fun _ => hS, h⟩)
/-- The halves chosen so far: a row of the call's own, the normals as they came. -/
def PreC (W0 w : World) (v : Value) (pre : List Hf) : Prop :=
  ∃ us : List Value, us.length = pre.length ∧ w.ownsRow W0.heap.size 99 2 v pre.length (flat us pre) ∧ ∀ (i : Nat) u x, us[i]? = some u → pre[i]? = some x → Sl W0 u (intVals x.1)
theorem PreC.hs {W0 w : World} {v : Value} {pre : List Hf} (h : PreC W0 w v pre) (hb : Below W0.heap.size W0 w) : Hs w v pre := by
  obtain ⟨us, h1, h2, h3⟩ := h
  rcases h2.2 with ⟨rfl, h0⟩ | ⟨g, cap, cur, rfl, _⟩
  · have : pre = [] := List.eq_nil_of_length_eq_zero h0
    subst this
    exact ⟨none, 0, rfl, by simp, fun i x hx => by simp at hx⟩
  · exact hs_of_row h2 h1 rfl fun i u x hu hx => (h3 i u x hu hx).below hb
theorem pre_snoc {W0 w : World} {base g n c : Nat} {us : List Value} {pre : List Hf} {y : Value} {h : Hf} (h1 : us.length = pre.length) (h2 : ∀ (i : Nat) u x, us[i]? = some u → pre[i]? = some x → Sl W0 u (intVals x.1)) (hy : Sl W0 y (intVals h.1)) (hb : W0.heap.size ≤ base)
    (hn : n = pre.length) (ho : w.ownsRow base 99 2 (.slice (some ⟨g, 0, none⟩) (n + 1) c) (n + 1) (flat us pre ++ flat [y] [h])) : PreC W0 w (.slice (some ⟨g, 0, none⟩) (n + 1) c) (pre ++ [h]) := by
  subst hn
  refine ⟨us ++ [y], by simp [h1], ?_, fun i u x hu hx => ?_⟩
  · rw [flat_snoc us pre y h h1, List.length_append, List.length_singleton]
    exact Go.Joins.ownsRow_le ho hb
  · by_cases hi : i < us.length
    · rw [List.getElem?_append_left hi] at hu
      rw [List.getElem?_append_left (by omega)] at hx
      exact h2 i u x hu hx
    · rw [List.getElem?_append_right (by omega)] at hu hx
      rw [← h1] at hx
      have : i - us.length < 1 := by have := lt_of_get hu; simpa using this
      have hz : i - us.length = 0 := by omega
      rw [hz] at hu hx
      obtain rfl : y = u := by simpa using hu
      obtain rfl : h = x := by simpa using hx
      exact hy
theorem ow_lt {T e : TypeId} {lo hi : Nat} {w : World} {v : Value} {hs : List Hf} (h : OwH T e lo hi w v hs) {q : Nat} (hq : v.ownBlock = some q) : lo ≤ q ∧ q < w.heap.size := by
  obtain ⟨us, _, k2, _⟩ := h
  exact k2.lt q hq
/-- append([]Half{}, halves...): none, or some. -/
theorem wp_pre {o : Oper} {a : Act} {w : World} {K : Act → World → Prop} {Q : Exit → Act → World → Prop} (s x : Operand)
    (ho : o.op = .call { callee := .builtin .append, args := #[s, x], argTypes := #[28, 28] })
    (base e0 : Nat) (pv : Value) (pre : List Hf) (us : List Value) (hv : a.eval s = .slice (some ⟨e0, 0, none⟩) 0 0) (hown : w.ownsRow base 99 2 (.slice (some ⟨e0, 0, none⟩) 0 0) 0 [])
    (b2 : Nat) (hp : w.ownsRow b2 99 2 pv pre.length (flat us pre)) (hl : us.length = pre.length) (hx : a.eval x = pv) (hus : ∀ u ∈ us, u.oneCell' = true) (hn : pre.length ≤ 1048576) (hbase : base ≤ w.heap.size)
    (h : ∀ g cap w', w'.ownsRow base 99 2 (.slice (some ⟨g, 0, none⟩) pre.length cap) pre.length (flat us pre) → w.grownBy w' (some e0) → K (a.put o.dst (.slice (some ⟨g, 0, none⟩) pre.length cap)) w') : o.wp Try.prog a w K Q := by
  by_cases h0 : pre.length = 0
  · obtain rfl : pre = [] := List.eq_nil_of_length_eq_zero h0
    obtain rfl : us = [] := List.eq_nil_of_length_eq_zero hl
    have hform : ∃ ad c, pv = .slice ad 0 c := by
      rcases hp.2 with ⟨rfl, _⟩ | ⟨g, cap, cur, rfl, _⟩
      · exact ⟨none, 0, rfl⟩
      · exact ⟨_, cap, rfl⟩
    obtain ⟨ad, c, rfl⟩ := hform
    exact wp_nonehalf s x ho base _ 0 [] hv hown ad c hx (h e0 0 w hown ⟨rfl, rfl, rfl, Nat.le_refl _, fun _ _ _ => rfl⟩)
  · obtain ⟨g, cap, rfl⟩ := Go.Joins.ownsRow_form hp (by omega)
    have hnw := row_news hp hl rfl 0
    rw [List.drop_zero, List.drop_zero, Nat.zero_mul] at hnw
    refine wp_halves s x ho base _ 0 [] hv hown ⟨g, 0, none⟩ pre.length cap us pre hl rfl hx hnw hus (by omega) (by omega) hbase fun g' c' w' k1 k2 _ => ?_
    rw [Nat.zero_add] at k1
    rw [Nat.zero_add]
    exact h g' c' w' k1 k2

theorem rows_ne {T1 T2 e : TypeId} {b1 lo hi k n : Nat} {w : World} {v V : Value} {xs : List Value} {hs : List Hf} (h : w.ownsRow b1 T1 k v n xs) (ho : OwH T2 e lo hi w V hs) (hT : T1 ≠ T2) : v.ownBlock = none ∨ v.ownBlock ≠ V.ownBlock := by
  rcases h.2 with ⟨rfl, _⟩ | ⟨g, cap, cur, rfl, _, hh, _⟩
  · exact .inl rfl
  · exact .inr (ho.ne hh hT)
/-- What l6Choose leaves when d more halves are to be chosen. -/
def ChooseS (n : Nat) (r : Rgn) (W0 : World) (d : Nat) : Prop :=
  ∀ (k : Nat) (f : Int) (_ : f = (k : Int)) (pre l : List Hf) (rv pv lv : Value) (w : World), k ≤ r.2.length → pre.length + d = n → (∀ x ∈ pre, x ∈ r.2) → Rg W0 rv r → Below W0.heap.size W0 w → PreC W0 w pv pre → OwH 63 3 W0.heap.size w.heap.size w lv l → l.length + cntQ r.2 d k ≤ 1048576 →
    Calls Try.prog 46 #[rv, .int .i64 f, pv, lv] w (PutH W0.heap.size w lv (ansQ r.1 r.2 d k pre l))
theorem choose_base {n : Nat} {r : Rgn} (W0 : World) (hr : RegC n r) : ChooseS n r W0 0 := by
  intro k f _ pre l rv pv lv w _ hl hp hrv hW hpre ho hc
  exact s_choose0 n r hr pre l (by omega) hp k _ f rv pv lv w (hrv.below hW) (hpre.hs hW) ho hW.size (by omega)

set_option maxRecDepth 100000 in
set_option maxHeartbeats 8000000 in
theorem choose_step {n d : Nat} {r : Rgn} (W0 : World) (hr : RegC n r) (IH : ChooseS n r W0 d) : ChooseS n r W0 (d + 1) := by
  intro k f hf pre l rv pv lv w hk hl hp hrv hW hpre ho hc
  have HR0 := Lib.hid hrv
  have HW := Lib.hid hW
  have HO := Lib.hid ho
  have IH := Lib.hid IH
  have HC0 := Lib.hid hc
  subst hf
  obtain ⟨u, rfl, hu⟩ := hrv
  have HU := Lib.hid hu
  obtain ⟨ra, rc, rfl, hrm⟩ := hu.shape
  obtain ⟨pa, pc, rfl, hpm⟩ := (hpre.hs hW).shape
  obtain ⟨us, u1, u2, u3⟩ := hpre
  have UL := Lib.hid u1
  have U2 := Lib.hid u2
  have US := Lib.hid u3
  have UO := Lib.hid (show ∀ x ∈ us, x.oneCell' = true from fun x hx => by
    obtain ⟨i, hi, hix⟩ := List.mem_iff_getElem.1 hx
    exact hs_one (u3 i x pre[i] (by rw [← hix]; exact List.getElem?_eq_getElem hi) (List.getElem?_eq_getElem (by omega))))
  have PM := Lib.hid (show ∀ (j : Nat) (h : j < r.2.length), ∀ x ∈ pre ++ [r.2[j]], x ∈ r.2 from fun j h x hx => by
    rcases List.mem_append.1 hx with hx | hx
    · exact hp x hx
    · rw [List.mem_singleton.1 hx]; exact List.getElem_mem h)
  unfold maxLen at hrm hpm
  have hn3 : pre.length ≤ 3 := by have := hr.2.2.1; omega
  have HD := Lib.hid (show ((pre.length : Int) == r.1) = false by rw [beq_eq_false_iff_ne, hr.1]; omega)
  have HL := Lib.hid hl
  have B0 := Lib.hid (below1 w (.cells #[.int .i64 r.1, .slice ra r.2.length rc] 30))
  have K0 := Lib.hid (Bk.new w #[.int .i64 r.1, .slice ra r.2.length rc] 30)
  clear hc hu u1 u2 u3 hp hr hW ho hl
  go_enter Try.func46, Try.ntmps46
  have hd := HD.out
  go_wp2_with fail
  clear hd
  refine wgenv ?_
  intro wx hwx
  have BX := Lib.hid (show Below w.heap.size w wx by rw [hwx]; exact B0.out)
  have KX := Lib.hid (show Bk wx w.heap.size #[.int .i64 r.1, .slice ra r.2.length rc] 30 by rw [hwx]; exact K0.out)
  clear hwx B0 K0
  have HOX := Lib.hid (HO.out.below BX.out)
  have UX := Lib.hid (owns2_below U2.out BX.out)
  have hxl : w.heap.size < wx.heap.size := KX.out.lt
  go_loopw [11, 3] (fun i V wr => ∃ (j : Nat) (lst : List Hf), j ≤ r.2.length ∧ i = .int .i64 j ∧ OwH 63 3 W0.heap.size wr.heap.size wr V lst ∧ wx.grownBy wr lv.ownBlock ∧ (∀ b, V.ownBlock = some b → lv.ownBlock = some b ∨ wx.heap.size ≤ b) ∧ lst.length + cntQ r.2 (d + 1) j ≤ 1048576 ∧ ansQ r.1 r.2 (d + 1) k pre l = ansQ r.1 r.2 (d + 1) j pre lst) (fun i _ _ => r.2.length - (RowKit.intOf i).toNat)
  case atStart => exact ⟨k, l, hk, rfl, HOX.out.mono (Nat.le_refl _) BX.out.size, grown_below (Below.refl _ _), fun _ h => .inl h, HC0.out, rfl⟩
  case round =>
    obtain ⟨j, lst, hj, rfl, hv, hg, ha, hc, han⟩ := hrel
    rename World => wr
    have HV := Lib.hid hv
    have HG := Lib.hid hg
    have HA := Lib.hid ha
    have KR := Lib.hid (KX.out.grown hg (HOX.out.ne KX.out (by decide)))
    have UW := Lib.hid (UX.out.kept hg (rows_ne UX.out HOX.out (by decide)))
    have HB0 := Lib.hid ((HW.out.trans (BX.out.mono HW.out.size)).grown hg (Nat.le_trans HW.out.size BX.out.size) (fun q hq => (ow_lt HOX.out hq).1))
    have HBW := Lib.hid HB0.out.size
    obtain ⟨⟨hc0, hc1⟩, -⟩ := KR.out.two
    have hbw : w.heap.size < wr.heap.size := KR.out.lt
    by_cases hlt : j < r.2.length
    · have CN := Lib.hid (show lst.length + cntQ r.2 d (j + 1) + cntQ r.2 (d + 1) (j + 1) ≤ 1048576 by rw [cnt_step hlt] at hc; omega)
      have CL := Lib.hid (ans_len (n := r.1) (hs := r.2) (d := d) (k := j + 1) (pre := pre ++ [r.2[j]]) (l := lst))
      have AN := Lib.hid (han.trans (ans_step hlt))
      obtain ⟨hb, ho, y, rfl, _, hb2, hc2, hc3, hsy⟩ := HU.out.half j hlt rfl
      have HSY := Lib.hid hsy
      rw [← HB0.out.cell (p := ⟨hb, ho + j * 2, none⟩) hb2] at hc2
      rw [← HB0.out.cell (p := ⟨hb, ho + j * 2 + 1, none⟩) hb2] at hc3
      have hbr : hb < wr.heap.size := Nat.lt_of_lt_of_le hb2 HBW.out
      have SS := Lib.hid (show ∀ W, Below wr.heap.size wr W → W.cell? ⟨w.heap.size, 0, none⟩ = some (.int .i64 r.1) ∧ W.cell? ⟨w.heap.size, 1, none⟩ = some (.slice (some ⟨hb, ho, none⟩) r.2.length rc) ∧ W.cell? ⟨hb, ho + j * 2, none⟩ = some y ∧ W.cell? ⟨hb, ho + j * 2 + 1, none⟩ = some (.int .i64 r.2[j].2) from fun W h => ⟨(h.cell (p := ⟨w.heap.size, 0, none⟩) hbw).trans hc0, (h.cell (p := ⟨w.heap.size, 1, none⟩) hbw).trans hc1, (h.cell (p := ⟨hb, ho + j * 2, none⟩) hbr).trans hc2, (h.cell (p := ⟨hb, ho + j * 2 + 1, none⟩) hbr).trans hc3⟩)
      have i0 : IntKind.i64.wrap ((j : Int) + 1) = (j : Int) + 1 := IntWalk.i64_in _ (by omega)
      have i1 : (0 : Int) ≤ (j : Int) := by omega
      have i2 : (j : Int) < (r.2.length : Int) := by omega
      have hl := HL.out
      clear hsy hv hg ha hc han
      go_wp2_with fail
      refine T_begin (z := fun q => 14 < q) (S := fun (w' : World) => w'.cell? ⟨w.heap.size, 0, none⟩ = some (.int .i64 r.1) ∧ w'.cell? ⟨w.heap.size, 1, none⟩ = some (.slice (some ⟨hb, ho, none⟩) r.2.length rc) ∧ w'.cell? ⟨hb, ho + j * 2, none⟩ = some y ∧ w'.cell? ⟨hb, ho + j * 2 + 1, none⟩ = some (.int .i64 r.2[j].2)) (by kernel_rfl) ?_
      show wpAnyT _ _ _ _ _ _ 16 _ _ _
      have hS0 := Lib.hid (show (fun (w' : World) => w'.cell? ⟨w.heap.size, 0, none⟩ = some (.int .i64 r.1) ∧ w'.cell? ⟨w.heap.size, 1, none⟩ = some (.slice (some ⟨hb, ho, none⟩) r.2.length rc) ∧ w'.cell? ⟨hb, ho + j * 2, none⟩ = some y ∧ w'.cell? ⟨hb, ho + j * 2 + 1, none⟩ = some (.int .i64 r.2[j].2)) _ from ⟨hc0, hc1, hc2, hc3⟩)
      refine T_take (i := 0) (v := .agg #[.int .i64 r.1, .slice (some ⟨hb, ho, none⟩) r.2.length rc]) rfl (by kernel_rfl) (by kernel_rfl) (by kernel_rfl) (by kernel_rfl) (fun _ _ _ h => h) hS0.out (by kernel_rfl) (fun w' hS' => by obtain ⟨s1, s2, s3, s4⟩ := hS'; clear hS0; go_simp) ?_
      refine T_take (i := 1) (v := .int .i64 j) rfl (by kernel_rfl) (by kernel_rfl) (by kernel_rfl) (by kernel_rfl) (fun _ _ _ h => h) hS0.out (by kernel_rfl) (fun w' hS' => by obtain ⟨s1, s2, s3, s4⟩ := hS'; clear hS0; go_simp) ?_
      refine T_take (i := 2) (v := .int .i64 ((j : Int) + 1)) rfl (by kernel_rfl) (by kernel_rfl) (by kernel_rfl) (by kernel_rfl) (fun _ _ _ h => h) hS0.out (by kernel_rfl) (fun w' hS' => by obtain ⟨s1, s2, s3, s4⟩ := hS'; clear hS0; go_simp) ?_
      refine T_take (i := 4) (v := .slice pa pre.length pc) rfl (by kernel_rfl) (by kernel_rfl) (by kernel_rfl) (by kernel_rfl) (fun _ _ _ h => h) hS0.out (by kernel_rfl) (fun w' hS' => by obtain ⟨s1, s2, s3, s4⟩ := hS'; clear hS0; go_simp) ?_
      refine T_take (i := 6) (v := .pointer (some ⟨w.heap.size, 1, none⟩)) rfl (by kernel_rfl) (by kernel_rfl) (by kernel_rfl) (by kernel_rfl) (fun _ _ _ h => h) hS0.out (by kernel_rfl) (fun w' hS' => by obtain ⟨s1, s2, s3, s4⟩ := hS'; clear hS0; go_simp) ?_
      refine T_take (i := 7) (v := .slice (some ⟨hb, ho, none⟩) r.2.length rc) rfl (by kernel_rfl) (by kernel_rfl) (by kernel_rfl) (by kernel_rfl) (fun _ _ _ h => h) hS0.out (by kernel_rfl) (fun w' hS' => by obtain ⟨s1, s2, s3, s4⟩ := hS'; clear hS0; go_simp) ?_
      refine T_take (i := 8) (v := .int .i64 j) rfl (by kernel_rfl) (by kernel_rfl) (by kernel_rfl) (by kernel_rfl) (fun _ _ _ h => h) hS0.out (by kernel_rfl) (fun w' hS' => by obtain ⟨s1, s2, s3, s4⟩ := hS'; clear hS0; go_simp) ?_
      refine T_take (i := 9) (v := .pointer (some ⟨hb, ho + j * 2, none⟩)) rfl (by kernel_rfl) (by kernel_rfl) (by kernel_rfl) (by kernel_rfl) (fun _ _ _ h => h) hS0.out (by kernel_rfl) (fun w' hS' => by obtain ⟨s1, s2, s3, s4⟩ := hS'; clear hS0; go_simp) ?_
      refine T_take (i := 10) (v := .agg #[y, .int .i64 r.2[j].2]) rfl (by kernel_rfl) (by kernel_rfl) (by kernel_rfl) (by kernel_rfl) (fun _ _ _ h => h) hS0.out (by kernel_rfl) (fun w' hS' => by obtain ⟨s1, s2, s3, s4⟩ := hS'; clear hS0; go_simp) ?_
      refine T_take (i := 13) (v := u3) rfl (by kernel_rfl) (by kernel_rfl) (by kernel_rfl) (by kernel_rfl) (fun _ _ _ h => h) hS0.out (by kernel_rfl) (fun w' hS' => by obtain ⟨s1, s2, s3, s4⟩ := hS'; clear hS0; go_simp) ?_
      clear hS0
      refine T_wg ?_
      intro Wa hWa
      have BWa := Lib.hid (show Below wr.heap.size wr Wa by rw [hWa]; exact (Below.refl _ _).drew)
      clear hWa
      refine T_two2 (i := 3) (j := 11) rfl rfl (by kernel_rfl) rfl rfl (by kernel_rfl) (by kernel_rfl) ?_ ?_
      · intro K hK
        go_simp
        refine hK.out _ _ (SS.out _ (BWa.out.trans ((below1 Wa _).mono BWa.out.size))) ?_
        clear hK K
        refine T_wg ?_
        intro Wb hWb
        have BWb := Lib.hid (show Below wr.heap.size wr Wb by rw [hWb]; exact BWa.out.trans ((below1 Wa _).mono BWa.out.size))
        have Rb := Lib.hid (show Wb.ownsRow wr.heap.size 99 2 (.slice (some ⟨Wa.heap.size, 0, none⟩) 0 0) 0 [] by rw [hWb]; exact World.ownsRow_made Wa #[] 0 BWa.out.size (by unfold maxLen; omega) rfl)
        clear hWb
        refine T_two2 (i := 5) (j := 11) rfl rfl (by kernel_rfl) rfl rfl (by kernel_rfl) (by kernel_rfl) ?_ ?_
        · intro K hK
          refine wp_pre _ _ (by rfl) wr.heap.size Wa.heap.size _ pre us (by rfl) Rb.out W0.heap.size (owns2_below UW.out BWb.out) UL.out (by rfl) UO.out (by omega) BWb.out.size ?_
          intro g5 c5 Wc ho5 hg5
          have he5 : wr.heap.size ≤ Wa.heap.size := (Rb.out.lt _ rfl).1
          have BWc := Lib.hid (BWb.out.grown hg5 BWb.out.size (fun q hq => by obtain rfl := Option.some.inj hq; exact he5))
          have Rc := Lib.hid ho5
          clear ho5 hg5 he5
          refine hK.out _ _ (SS.out _ BWc.out) ?_
          clear hK K
          refine T_step (i := 11) rfl (by kernel_rfl) rfl (by kernel_rfl) ?_
          intro K hK
          go_simp
          refine hK.out _ _ (SS.out _ (BWc.out.trans ((below1 Wc _).mono BWc.out.size))) ?_
          clear hK K
          refine T_wg ?_
          intro Wd hWd
          have BWd := Lib.hid (show Below wr.heap.size wr Wd by rw [hWd]; exact BWc.out.trans ((below1 Wc _).mono BWc.out.size))
          have NBd := Lib.hid (show Bk Wd Wc.heap.size #[y, .int .i64 r.2[j].2] 99 by rw [hWd]; exact Bk.new Wc _ _)
          have Rd := Lib.hid (show Wd.ownsRow wr.heap.size 99 2 (.slice (some ⟨g5, 0, none⟩) pre.length c5) pre.length (flat us pre) by rw [hWd]; exact owns2_below Rc.out (below1 Wc _))
          clear hWd
          refine T_step (i := 12) rfl (by kernel_rfl) rfl (by kernel_rfl) ?_
          intro K hK
          refine wp_halves _ _ (by rfl) wr.heap.size (.slice (some ⟨g5, 0, none⟩) pre.length c5) pre.length (flat us pre) (by rfl) Rd.out ⟨Wc.heap.size, 0, none⟩ 1 1 [y] [r.2[j]] rfl rfl (by rfl) (World.news_of_block NBd.out) (fun x hx => by rw [List.mem_singleton.1 hx]; exact hs_one HSY.out) (by omega) (by omega) BWd.out.size ?_
          intro g12 c12 We ho12 hg12 _
          have BWe := Lib.hid (BWd.out.grown hg12 BWd.out.size (fun q hq => (Rd.out.lt q hq).1))
          have Re := Lib.hid (show PreC W0 We (.slice (some ⟨g12, 0, none⟩) (pre.length + 1) c12) (pre ++ [r.2[j]]) from pre_snoc UL.out US.out HSY.out HBW.out rfl ho12)
          clear ho12 hg12
          refine hK.out _ _ (SS.out _ BWe.out) ?_
          clear hK K
          refine T_step (i := 14) rfl (by kernel_rfl) rfl (by kernel_rfl) ?_
          intro K hK
          go_simp
          refine (IH.out (j + 1) _ (by omega) (pre ++ [r.2[j]]) lst _ _ _ We (by omega) (by rw [List.length_append, List.length_singleton]; omega) (PM.out j hlt) HR0.out (HB0.out.trans (BWe.out.mono HBW.out)) Re.out ((HV.out.below BWe.out).mono (Nat.le_refl _) BWe.out.size) (by have := CN.out; omega)).mono ?_
          rintro e w5 ⟨⟨V5, rfl, hv5, ha5⟩, hg5⟩
          have hvb : ∀ q, u3.ownBlock = some q → W0.heap.size ≤ q ∧ q < wr.heap.size := fun q hq => ow_lt HV.out hq
          have hhb : some hb ≠ u3.ownBlock := fun e => by have := hvb _ e.symm; omega
          have hvn : some w.heap.size ≠ u3.ownBlock := HV.out.ne KR.out (by decide)
          have G5 := Lib.hid (show wr.grownBy w5 u3.ownBlock from grown_trans (grown_below BWe.out) hg5 (fun q hq => .inl hq))
          have K5 := Lib.hid (KR.out.grown G5.out hvn)
          have V5o := Lib.hid hv5
          have A5 := Lib.hid (fun q hq => (ha5 q hq).imp id (Nat.le_trans BWe.out.size))
          refine hK.out _ _ ⟨K5.out.two.1.1, K5.out.two.1.2, (World.cell?_of_block (G5.out.block _ hbr hhb)).trans hc2, (World.cell?_of_block (G5.out.block _ hbr hhb)).trans hc3⟩ ?_
          clear hK K hv5 ha5 hg5
          refine T_last (i := 15) rfl (by kernel_rfl) (by kernel_rfl) rfl rfl ?_
          go_simp
          go_wp2
          exact ⟨⟨j + 1, ansQ r.1 r.2 d (j + 1) (pre ++ [r.2[j]]) lst, by omega, by go_num, V5o.out, grown_trans HG.out G5.out (fun q hq => (HA.out q hq).imp id id), fun q hq => (A5.out q hq).elim (fun h => HA.out q h) (fun h => .inr (Nat.le_trans HG.out.size h)), by have := CN.out; have := CL.out; omega, AN.out⟩, by simp [RowKit.intOf]; omega⟩
        · intro K hK
          go_simp
          refine hK.out _ _ (SS.out _ (BWb.out.trans ((below1 Wb _).mono BWb.out.size))) ?_
          clear hK K
          refine T_wg ?_
          intro Wc hWc
          have BWc := Lib.hid (show Below wr.heap.size wr Wc by rw [hWc]; exact BWb.out.trans ((below1 Wb _).mono BWb.out.size))
          have NBc := Lib.hid (show Bk Wc Wb.heap.size #[y, .int .i64 r.2[j].2] 99 by rw [hWc]; exact Bk.new Wb _ _)
          have Rc := Lib.hid (show Wc.ownsRow wr.heap.size 99 2 (.slice (some ⟨Wa.heap.size, 0, none⟩) 0 0) 0 [] by rw [hWc]; exact owns2_below Rb.out (below1 Wb _))
          clear hWc
          refine T_step (i := 5) rfl (by kernel_rfl) rfl (by kernel_rfl) ?_
          intro K hK
          refine wp_pre _ _ (by rfl) wr.heap.size Wa.heap.size _ pre us (by rfl) Rc.out W0.heap.size (owns2_below UW.out BWc.out) UL.out (by rfl) UO.out (by omega) BWc.out.size ?_
          intro g5 c5 Wd ho5 hg5
          have he5 : wr.heap.size ≤ Wa.heap.size := (Rc.out.lt _ rfl).1
          have BWd := Lib.hid (BWc.out.grown hg5 BWc.out.size (fun q hq => by obtain rfl := Option.some.inj hq; exact he5))
          have Rd := Lib.hid ho5
          have ne5 : Wa.heap.size < Wb.heap.size := (Rb.out.lt _ rfl).2
          have NBd := Lib.hid (NBc.out.grown hg5 (fun e => by have := Option.some.inj e; omega))
          clear ne5
          clear ho5 hg5 he5
          refine hK.out _ _ (SS.out _ BWd.out) ?_
          clear hK K
          refine T_step (i := 12) rfl (by kernel_rfl) rfl (by kernel_rfl) ?_
          intro K hK
          refine wp_halves _ _ (by rfl) wr.heap.size (.slice (some ⟨g5, 0, none⟩) pre.length c5) pre.length (flat us pre) (by rfl) Rd.out ⟨Wb.heap.size, 0, none⟩ 1 1 [y] [r.2[j]] rfl rfl (by rfl) (World.news_of_block NBd.out) (fun x hx => by rw [List.mem_singleton.1 hx]; exact hs_one HSY.out) (by omega) (by omega) BWd.out.size ?_
          intro g12 c12 We ho12 hg12 _
          have BWe := Lib.hid (BWd.out.grown hg12 BWd.out.size (fun q hq => (Rd.out.lt q hq).1))
          have Re := Lib.hid (show PreC W0 We (.slice (some ⟨g12, 0, none⟩) (pre.length + 1) c12) (pre ++ [r.2[j]]) from pre_snoc UL.out US.out HSY.out HBW.out rfl ho12)
          clear ho12 hg12
          refine hK.out _ _ (SS.out _ BWe.out) ?_
          clear hK K
          refine T_step (i := 14) rfl (by kernel_rfl) rfl (by kernel_rfl) ?_
          intro K hK
          go_simp
          refine (IH.out (j + 1) _ (by omega) (pre ++ [r.2[j]]) lst _ _ _ We (by omega) (by rw [List.length_append, List.length_singleton]; omega) (PM.out j hlt) HR0.out (HB0.out.trans (BWe.out.mono HBW.out)) Re.out ((HV.out.below BWe.out).mono (Nat.le_refl _) BWe.out.size) (by have := CN.out; omega)).mono ?_
          rintro e w5 ⟨⟨V5, rfl, hv5, ha5⟩, hg5⟩
          have hvb : ∀ q, u3.ownBlock = some q → W0.heap.size ≤ q ∧ q < wr.heap.size := fun q hq => ow_lt HV.out hq
          have hhb : some hb ≠ u3.ownBlock := fun e => by have := hvb _ e.symm; omega
          have hvn : some w.heap.size ≠ u3.ownBlock := HV.out.ne KR.out (by decide)
          have G5 := Lib.hid (show wr.grownBy w5 u3.ownBlock from grown_trans (grown_below BWe.out) hg5 (fun q hq => .inl hq))
          have K5 := Lib.hid (KR.out.grown G5.out hvn)
          have V5o := Lib.hid hv5
          have A5 := Lib.hid (fun q hq => (ha5 q hq).imp id (Nat.le_trans BWe.out.size))
          refine hK.out _ _ ⟨K5.out.two.1.1, K5.out.two.1.2, (World.cell?_of_block (G5.out.block _ hbr hhb)).trans hc2, (World.cell?_of_block (G5.out.block _ hbr hhb)).trans hc3⟩ ?_
          clear hK K hv5 ha5 hg5
          refine T_last (i := 15) rfl (by kernel_rfl) (by kernel_rfl) rfl rfl ?_
          go_simp
          go_wp2
          exact ⟨⟨j + 1, ansQ r.1 r.2 d (j + 1) (pre ++ [r.2[j]]) lst, by omega, by go_num, V5o.out, grown_trans HG.out G5.out (fun q hq => (HA.out q hq).imp id id), fun q hq => (A5.out q hq).elim (fun h => HA.out q h) (fun h => .inr (Nat.le_trans HG.out.size h)), by have := CN.out; have := CL.out; omega, AN.out⟩, by simp [RowKit.intOf]; omega⟩
      · intro K hK
        go_simp
        refine hK.out _ _ (SS.out _ (BWa.out.trans ((below1 Wa _).mono BWa.out.size))) ?_
        clear hK K
        refine T_wg ?_
        intro Wb hWb
        have BWb := Lib.hid (show Below wr.heap.size wr Wb by rw [hWb]; exact BWa.out.trans ((below1 Wa _).mono BWa.out.size))
        have NBb := Lib.hid (show Bk Wb Wa.heap.size #[y, .int .i64 r.2[j].2] 99 by rw [hWb]; exact Bk.new Wa _ _)
        clear hWb
        refine T_step (i := 3) rfl (by kernel_rfl) rfl (by kernel_rfl) ?_
        intro K hK
        go_simp
        refine hK.out _ _ (SS.out _ (BWb.out.trans ((below1 Wb _).mono BWb.out.size))) ?_
        clear hK K
        refine T_wg ?_
        intro Wc hWc
        have BWc := Lib.hid (show Below wr.heap.size wr Wc by rw [hWc]; exact BWb.out.trans ((below1 Wb _).mono BWb.out.size))
        have Rc := Lib.hid (show Wc.ownsRow wr.heap.size 99 2 (.slice (some ⟨Wb.heap.size, 0, none⟩) 0 0) 0 [] by rw [hWc]; exact World.ownsRow_made Wb #[] 0 BWb.out.size (by unfold maxLen; omega) rfl)
        have NBc := Lib.hid (show Bk Wc Wa.heap.size #[y, .int .i64 r.2[j].2] 99 by rw [hWc]; exact NBb.out.below (below1 Wb _))
        clear hWc
        refine T_step (i := 5) rfl (by kernel_rfl) rfl (by kernel_rfl) ?_
        intro K hK
        refine wp_pre _ _ (by rfl) wr.heap.size Wb.heap.size _ pre us (by rfl) Rc.out W0.heap.size (owns2_below UW.out BWc.out) UL.out (by rfl) UO.out (by omega) BWc.out.size ?_
        intro g5 c5 Wd ho5 hg5
        have he5 : wr.heap.size ≤ Wb.heap.size := (Rc.out.lt _ rfl).1
        have BWd := Lib.hid (BWc.out.grown hg5 BWc.out.size (fun q hq => by obtain rfl := Option.some.inj hq; exact he5))
        have Rd := Lib.hid ho5
        have ne5 : Wa.heap.size < Wb.heap.size := NBb.out.lt
        have NBd := Lib.hid (NBc.out.grown hg5 (fun e => by have := Option.some.inj e; omega))
        clear ne5
        clear ho5 hg5 he5
        refine hK.out _ _ (SS.out _ BWd.out) ?_
        clear hK K
        refine T_step (i := 12) rfl (by kernel_rfl) rfl (by kernel_rfl) ?_
        intro K hK
        refine wp_halves _ _ (by rfl) wr.heap.size (.slice (some ⟨g5, 0, none⟩) pre.length c5) pre.length (flat us pre) (by rfl) Rd.out ⟨Wa.heap.size, 0, none⟩ 1 1 [y] [r.2[j]] rfl rfl (by rfl) (World.news_of_block NBd.out) (fun x hx => by rw [List.mem_singleton.1 hx]; exact hs_one HSY.out) (by omega) (by omega) BWd.out.size ?_
        intro g12 c12 We ho12 hg12 _
        have BWe := Lib.hid (BWd.out.grown hg12 BWd.out.size (fun q hq => (Rd.out.lt q hq).1))
        have Re := Lib.hid (show PreC W0 We (.slice (some ⟨g12, 0, none⟩) (pre.length + 1) c12) (pre ++ [r.2[j]]) from pre_snoc UL.out US.out HSY.out HBW.out rfl ho12)
        clear ho12 hg12
        refine hK.out _ _ (SS.out _ BWe.out) ?_
        clear hK K
        refine T_step (i := 14) rfl (by kernel_rfl) rfl (by kernel_rfl) ?_
        intro K hK
        go_simp
        refine (IH.out (j + 1) _ (by omega) (pre ++ [r.2[j]]) lst _ _ _ We (by omega) (by rw [List.length_append, List.length_singleton]; omega) (PM.out j hlt) HR0.out (HB0.out.trans (BWe.out.mono HBW.out)) Re.out ((HV.out.below BWe.out).mono (Nat.le_refl _) BWe.out.size) (by have := CN.out; omega)).mono ?_
        rintro e w5 ⟨⟨V5, rfl, hv5, ha5⟩, hg5⟩
        have hvb : ∀ q, u3.ownBlock = some q → W0.heap.size ≤ q ∧ q < wr.heap.size := fun q hq => ow_lt HV.out hq
        have hhb : some hb ≠ u3.ownBlock := fun e => by have := hvb _ e.symm; omega
        have hvn : some w.heap.size ≠ u3.ownBlock := HV.out.ne KR.out (by decide)
        have G5 := Lib.hid (show wr.grownBy w5 u3.ownBlock from grown_trans (grown_below BWe.out) hg5 (fun q hq => .inl hq))
        have K5 := Lib.hid (KR.out.grown G5.out hvn)
        have V5o := Lib.hid hv5
        have A5 := Lib.hid (fun q hq => (ha5 q hq).imp id (Nat.le_trans BWe.out.size))
        refine hK.out _ _ ⟨K5.out.two.1.1, K5.out.two.1.2, (World.cell?_of_block (G5.out.block _ hbr hhb)).trans hc2, (World.cell?_of_block (G5.out.block _ hbr hhb)).trans hc3⟩ ?_
        clear hK K hv5 ha5 hg5
        refine T_last (i := 15) rfl (by kernel_rfl) (by kernel_rfl) rfl rfl ?_
        go_simp
        go_wp2
        exact ⟨⟨j + 1, ansQ r.1 r.2 d (j + 1) (pre ++ [r.2[j]]) lst, by omega, by go_num, V5o.out, grown_trans HG.out G5.out (fun q hq => (HA.out q hq).imp id id), fun q hq => (A5.out q hq).elim (fun h => HA.out q h) (fun h => .inr (Nat.le_trans HG.out.size h)), by have := CN.out; have := CL.out; omega, AN.out⟩, by simp [RowKit.intOf]; omega⟩
    · obtain rfl : j = r.2.length := by omega
      have EN := Lib.hid (han.trans ans_end)
      clear hv hg ha hc han
      go_wp2
      go_ret
      exact put_mk EN.out ⟨⟨_, rfl, HV.out, fun q hq => (HA.out q hq).imp id (Nat.le_trans BX.out.size)⟩, grown_trans (grown_below BX.out) HG.out (fun q hq => .inl hq)⟩
end Go.Proofs.Ytckpifcdlmfabaa
/- The model's VerticesOf. -/
namespace Go.Proofs.Ytckpifcdlmfabaa
open Go.RowKit Go.Lib

/-- What a function that makes points of its own leaves. -/
def MadeRs (w : World) (l : List Hf) (e : Ending) (w' : World) : Prop := (∃ v, e = .returned v ∧ OwH 63 3 w.heap.size w'.heap.size w' v l) ∧ Below w.heap.size w w'
theorem made_rs {w : World} {l l' : List Hf} {e : Ending} {w' : World} (h : l' = l) (g : MadeRs w l e w') : MadeRs w l' e w' := by subst h; exact g
theorem choose_all {n : Nat} {r : Rgn} (W0 : World) (hr : RegC n r) : ∀ d, ChooseS n r W0 d
  | 0 => choose_base W0 hr
  | d + 1 => choose_step W0 hr (choose_all W0 hr d)
theorem regC_of {n : Nat} {r : Rgn} (h : regOk r.1 r.2 = true) (hn : r.1 = n) : RegC n r := by
  have h1 := regOk_t h
  refine ⟨hn, by omega, by omega, fun x hx => ?_⟩
  obtain ⟨i, hi, rfl⟩ := List.mem_iff_getElem.1 hx
  obtain ⟨_, _, a3, a4, _, a6, a7⟩ := halfOk_t (h1.2.2.2 i hi)
  exact ⟨by omega, fun k hk => by have := a4 k hk; omega, a6, a7⟩
theorem owh_empty {T e : TypeId} {base lo hi b : Nat} {w : World} (h : w.ownsRow base T 2 (.slice (some ⟨b, 0, none⟩) 0 0) 0 []) (hlo : lo ≤ base) (hb : b < hi) : OwH T e lo hi w (.slice (some ⟨b, 0, none⟩) 0 0) [] :=
  ⟨[], rfl, Go.Joins.ownsRow_le h hlo, fun x hx => (show b = x by simpa [Value.ownBlock] using hx) ▸ hb, fun i u h hu _ => by simp at hu, fun i j u u' b _ hu => by simp at hu, fun i u b hu => by simp at hu⟩

set_option maxRecDepth 100000 in
set_option maxHeartbeats 4000000 in
theorem s_verticesof (r : Rgn) (v : Value) (w : World) (hv : Rg w v r) :
    Calls Try.prog 13 #[v] w (MadeRs w (vertQ r.1 r.2)) := by
  have HR := Lib.hid hv
  obtain ⟨u, rfl, hu⟩ := hv
  obtain ⟨ra, rc, rfl, hrm⟩ := hu.shape
  unfold maxLen at hrm
  have B0 := Lib.hid (below1 w (.cells #[.int .i64 r.1, .slice ra r.2.length rc] 30))
  have K0 := Lib.hid (Bk.new w #[.int .i64 r.1, .slice ra r.2.length rc] 30)
  clear hu
  by_cases c : regOk r.1 r.2 = true
  · obtain ⟨n, hn⟩ : ∃ n : Nat, r.1 = n := ⟨r.1.toNat, by have := (regOk_t c).1; omega⟩
    have C := Lib.hid c
    have RC := Lib.hid (regC_of c hn)
    have CN := Lib.hid (show ([] : List Hf).length + cntQ r.2 n 0 ≤ 1048576 by
      have h1 := choose_len n (r.2.drop 0)
      have h2 := (regOk_t c).2.2.1
      have h3 : 2 ^ (r.2.drop 0).length ≤ 2 ^ 8 := Nat.pow_le_pow_right (by omega) (by rw [List.length_drop]; omega)
      unfold cntQ
      simp only [List.length_nil]
      omega)
    have EV := Lib.hid (show vertQ r.1 r.2 = ansQ r.1 r.2 n 0 [] [] by rw [ans_vert c, hn]; rfl)
    clear c hn
    go_enter Try.func13, Try.ntmps13
    go_wp2_with fail
    refine (s_isreg r _ _ (HR.out.below B0.out)).mono ?_
    rintro e w1 ⟨rfl, hb⟩
    rw [C.out]
    have B1 := Lib.hid (B0.out.trans (hb.mono B0.out.size))
    obtain ⟨⟨p0, p1⟩, -⟩ := (K0.out.below hb).two
    have hl1 : w.heap.size < w1.heap.size := (K0.out.below hb).lt
    clear hb
    have RO := World.ownsRow_made (w1.alloc (.cells #[] 99)) (base := w.heap.size) (e := 63) (size := 2) #[] 0 (by rw [World.size_alloc]; omega) (by unfold maxLen; omega) rfl
    rw [World.size_alloc] at RO
    have OO := Lib.hid (owh_empty (lo := w.heap.size) (hi := ((w1.alloc (.cells #[] 99)).alloc (.cells #[] 63)).heap.size) (e := 3) RO (Nat.le_refl _) (by rw [World.size_alloc, World.size_alloc]; omega))
    have PO := Lib.hid (show PreC w ((w1.alloc (.cells #[] 99)).alloc (.cells #[] 63)) (.slice (some ⟨w1.heap.size, 0, none⟩) 0 0) [] from ⟨[], rfl, owns2_below (World.ownsRow_made w1 #[] 0 (Nat.le_of_lt hl1) (by unfold maxLen; omega) rfl) (below1 _ _), fun i u x hu => by simp at hu⟩)
    have B2 := Lib.hid (B1.out.trans ((below2 w1 (.cells #[] 99) (.cells #[] 63)).mono B1.out.size))
    clear RO
    go_wp2_with fail
    refine (choose_all w RC.out n 0 0 rfl [] [] _ _ _ _ (Nat.zero_le _) (Nat.zero_add _) (fun x hx => by cases hx) HR.out B2.out PO.out OO.out CN.out).mono ?_
    rintro e w3 ⟨⟨v3, rfl, hv3, _⟩, hg⟩
    have HV := Lib.hid hv3
    have HB := Lib.hid (B2.out.grown hg B2.out.size (fun q hq => (ow_lt OO.out hq).1))
    clear p0 p1 hv3 hg
    go_wp2
    go_ret
    exact made_rs EV.out ⟨⟨_, rfl, HV.out⟩, HB.out⟩
  · have C := Lib.hid (bool_f c)
    have EV := Lib.hid (show vertQ r.1 r.2 = [] by unfold vertQ; rw [if_neg c])
    clear c
    go_enter Try.func13, Try.ntmps13
    go_wp2_with fail
    refine (s_isreg r _ _ (HR.out.below B0.out)).mono ?_
    rintro e w1 ⟨rfl, hb⟩
    rw [C.out]
    have B1 := Lib.hid (B0.out.trans (hb.mono B0.out.size))
    have hl1 : w.heap.size < w1.heap.size := (K0.out.below hb).lt
    clear hb
    go_wp2
    go_ret
    exact made_rs EV.out ⟨⟨_, rfl, owh_empty (World.ownsRow_made w1 #[] 0 (Nat.le_refl _) (by unfold maxLen; omega) rfl) (Nat.le_of_lt hl1) (by simp)⟩, B1.out.trans ((below1 w1 _).mono B1.out.size)⟩
end Go.Proofs.Ytckpifcdlmfabaa
/- append(points, point); the program's VerticesOf. -/
namespace Go.Proofs.Ytckpifcdlmfabaa
open Go.RowKit Go.Lib

/-- append(points, point) at a plain list of operations. -/
theorem list_app_rat {ops : Array Oper} {rest : List Oper} {o : Oper} {a : Act} {w : World} {Q : Exit → Act → World → Prop} (hgd : o.guard = none) (s x : Operand)
    (ho : o.op = .call { callee := .builtin .append, args := #[s, x], argTypes := #[26, 26] })
    (base m : Nat) (v u : Value) (hs : List Hf) (h : Hf) (hv : a.eval s = v) (hown : OwH 63 3 base m w v hs) (hu : OwnV 3 m w.heap.size w u (intVals h.1))
    (H : Nat) (hx : a.eval x = .slice (some ⟨H, 0, none⟩) 1 1) (hnew : w.heap[H]? = some (.cells #[u, .int .i64 h.2] 63 (0, 0)))
    (hn : hs.length ≤ 1099511627776) (hbm : base ≤ m) (hm : m ≤ w.heap.size)
    (k : ∀ g cap w', OwH 63 3 base w'.heap.size w' (.slice (some ⟨g, 0, none⟩) (hs.length + 1) cap) (hs ++ [h]) → Below base w w' → (v.ownBlock = some g ∨ w.heap.size ≤ g) → w.grownBy w' v.ownBlock → wpList Try.prog ops Q rest (a.put o.dst (.slice (some ⟨g, 0, none⟩) (hs.length + 1) cap)) w') :
    wpList Try.prog ops Q (o :: rest) a w := by
  obtain ⟨i0, hi, hz0, hz1, hz2⟩ := info_parts info_rat
  have hown' := hown
  obtain ⟨us, h1, h2, h3, h4, h5, h6⟩ := hown
  refine wpList_append_lies w hgd s x 26 ho base 63 i0 _ 2 32 Try.underlying26 hi hz0 hz1 hz2 rfl (by omega) v hs.length (flat us hs) hv h2 ⟨H, 0, none⟩ 1 1 [u, .int .i64 h.2] hx rfl (World.news_of_block (cs := #[u, .int .i64 h.2]) hnew) (fun q hq => by
      simp only [List.mem_cons, List.not_mem_nil, or_false] at hq
      rcases hq with rfl | rfl
      · exact own_one hu
      · rfl) (by omega) (by unfold maxLen; omega) (by omega) (by omega) w.heap.size rfl ?_
  intro g cap w' k1 k2 k3 k4
  refine k g cap w' ?_ ((Below.refl base w).grown k2 (by omega) ?_) (k3.elim (fun h => .inl h) (fun h => .inr (by omega))) k2
  · refine hown'.snoc hu hbm hm ⟨h1, h2, h4, h5, h6⟩ h3 k1 k2 ?_
    intro b hb
    have hgb : g = b := by simpa [Value.ownBlock] using hb
    subst hgb
    rcases k3 with h | h
    · exact .inl h
    · exact .inr (by omega)
  · intro q hq
    exact (h2.lt q hq).1

end Go.Proofs.Ytckpifcdlmfabaa
/- The model's IsWholeRegion. -/
namespace Go.Proofs.Ytckpifcdlmfabaa
open Go.RowKit Go.Lib

/-- Whether there are points and all are whole. -/
def wholeQ (n : Int) (hs : List Hf) : Bool := (vertQ n hs).all (fun p => decide (p.2 = 1)) && decide (0 < (vertQ n hs).length)
theorem wholeQ_no {n : Int} {hs : List Hf} {k : Nat} (h : k < (vertQ n hs).length) (hk : ¬ (vertQ n hs)[k].2 = 1) : wholeQ n hs = false := by
  unfold wholeQ
  have : (vertQ n hs).all (fun p => decide (p.2 = 1)) = false := all_not' h (by rw [decide_eq_false_iff_not]; exact hk)
  rw [this]; rfl
theorem wholeQ_len {n : Int} {hs : List Hf} (h : (vertQ n hs).all (fun p => decide (p.2 = 1)) = true) : wholeQ n hs = decide (0 < (vertQ n hs).length) := by
  unfold wholeQ
  rw [h, Bool.true_and]

set_option maxRecDepth 100000 in
set_option maxHeartbeats 4000000 in
theorem s_iswhole (r : Rgn) (v : Value) (w : World) (hv : Rg w v r) :
    Calls Try.prog 21 #[v] w (Quiet w (.bool (wholeQ r.1 r.2))) := by
  have HR := Lib.hid hv
  obtain ⟨u, rfl, hu⟩ := hv
  obtain ⟨ra, rc, rfl, hrm⟩ := hu.shape
  unfold maxLen at hrm
  have B0 := Lib.hid (below1 w (.cells #[.int .i64 r.1, .slice ra r.2.length rc] 30))
  clear hu
  obtain ⟨L, hL⟩ : ∃ L, vertQ r.1 r.2 = L := ⟨_, rfl⟩
  have EL := Lib.hid hL
  have WN := Lib.hid (show ∀ (k : Nat) (h : k < L.length), ¬ L[k].2 = 1 → wholeQ r.1 r.2 = false from fun k h hk => by subst hL; exact wholeQ_no h hk)
  have WL := Lib.hid (show L.all (fun p => decide (p.2 = 1)) = true → wholeQ r.1 r.2 = decide (0 < L.length) from fun h => by subst hL; exact wholeQ_len h)
  clear hL
  go_enter Try.func21, Try.ntmps21
  go_wp2_with fail
  refine (s_verticesof r _ _ (HR.out.below B0.out)).mono ?_
  rintro e w1 ⟨⟨v1, rfl, hv1⟩, hb⟩
  rw [EL.out] at hv1
  have HV := Lib.hid hv1.hs
  obtain ⟨a, c, rfl, hm⟩ := hv1.hs.shape
  unfold maxLen at hm
  have B1 := Lib.hid (B0.out.trans (hb.mono B0.out.size))
  clear hb hv1
  go_wp2_with fail
  go_loopw [4] (fun i wr => ∃ k : Nat, k ≤ L.length ∧ i = .int .i64 k ∧ (L.take k).all (fun p => decide (p.2 = 1)) = true ∧ Below w1.heap.size w1 wr) (fun i _ => L.length - (RowKit.intOf i).toNat)
  case atStart => exact ⟨0, Nat.zero_le _, rfl, rfl, Below.refl _ _⟩
  case round =>
    obtain ⟨k, hk, rfl, ht, hbr⟩ := hrel
    have HB := Lib.hid hbr
    have HT := Lib.hid ht
    have HA := Lib.hid (B1.out.trans (hbr.mono B1.out.size))
    clear ht
    by_cases hlt : k < L.length
    · obtain ⟨b, off, y, rfl, _, hb2, hcell, hcell1, _⟩ := HV.out.half k hlt rfl
      rw [← hbr.cell (p := ⟨b, off + k * 2 + 1, none⟩) hb2] at hcell1
      have i1 : (0 : Int) ≤ (k : Int) := by omega
      have i2 : (k : Int) < (L.length : Int) := by omega
      obtain ⟨z, hz⟩ : ∃ z, L[k].2 = z := ⟨_, rfl⟩
      rw [hz] at hcell1
      have HZ := Lib.hid hz
      clear hcell hbr hz
      by_cases h1 : z = 1
      · have c1 : (z == 1) = true := by rw [beq_iff_eq]; exact h1
        go_wp2
        exact ⟨⟨k + 1, by omega, by go_num, all_take' hlt HT.out (by rw [decide_eq_true_eq, HZ.out]; exact h1), HB.out⟩, by simp [RowKit.intOf]; omega⟩
      · have c1 : (z == 1) = false := by rw [beq_eq_false_iff_ne]; exact h1
        have E := Lib.hid (WN.out k hlt (by rw [HZ.out]; exact h1))
        go_wp2
        go_ret
        exact ⟨ret_bool E.out.symm, HA.out⟩
    · obtain rfl : k = L.length := by omega
      have E := Lib.hid (WL.out (by have h := HT.out; rw [List.take_length] at h; exact h))
      clear hbr
      go_wp2
      go_ret
      exact ⟨ret_bool E.out.symm, HA.out⟩
end Go.Proofs.Ytckpifcdlmfabaa
