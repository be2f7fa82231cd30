/- The program's SplitCone. -/
import Derived.Test.YtjijgagdaolkcaaMaw
import Derived.Test.YtjijgagdaolkcaaMav
import Derived.Test.YtjijgagdaolkcaaMaf
import Derived.Test.YtjijgagdaolkcaaMap
import Derived.Test.YtjijgagdaolkcaaRowEq
import Derived.Test.YtjijgagdaolkcaaMad
namespace Go.Proofs.Ytjijgagdaolkcaa
open Go Go.RowKit Go.Lib

set_option maxRecDepth 100000 in
set_option maxHeartbeats 1600000 in
theorem i_raysof (c : Cn) (hc : coneR c = true) (v : Value) (w : World) (hv : Cv w v c) :
    Calls Try.prog 63 #[v] w (MadeL w (raysL (ptOf c.1) (ptOf c.2))) := by
  obtain ⟨u, t, rfl, hs, ht⟩ := hv
  have HS := Lib.hid hs
  have HT := Lib.hid ht
  have K := Lib.hid (Bk.new w #[u, t] 26)
  have B0 := Lib.hid (below1 w (.cells #[u, t] 26))
  clear hs ht
  have RR := Lib.hid (coneR_t hc)
  have R1 := Lib.hid (rayR_t RR.out.1)
  have R2 := Lib.hid (rayR_t RR.out.2.1)
  clear hc
  go_enter Try.func63, Try.ntmps63
  go_wp2_with fail
  refine T_begin (z := fun k => 6 < k) (S := fun (w' : World) => Bk w' w.heap.size #[u, t] 26 ∧ Below w.heap.size w w') (by kernel_rfl) ?_
  show wpAnyT _ _ _ _ _ _ 8 _ _ _
  have hS0 := Lib.hid (show (fun (w' : World) => Bk w' w.heap.size #[u, t] 26 ∧ Below w.heap.size w w') ((w.alloc (.cells #[u, t] 26)).drew) from ⟨K.out, B0.out.drew⟩)
  refine T_take (i := 0) (v := .pointer (some ⟨w.heap.size, 0, none⟩)) rfl (by kernel_rfl) (by kernel_rfl) (by kernel_rfl) (by kernel_rfl) (fun _ _ _ h => h) hS0.out (by kernel_rfl) (fun w' hS' => by obtain ⟨⟨h0, h1⟩, -⟩ := hS'.1.two; go_simp) ?_
  refine T_take (i := 1) (v := u) rfl (by kernel_rfl) (by kernel_rfl) (by kernel_rfl) (by kernel_rfl) (fun _ _ _ h => h) hS0.out (by kernel_rfl) (fun w' hS' => by obtain ⟨⟨h0, h1⟩, -⟩ := hS'.1.two; go_simp) ?_
  refine T_take (i := 3) (v := .pointer (some ⟨w.heap.size, 1, none⟩)) rfl (by kernel_rfl) (by kernel_rfl) (by kernel_rfl) (by kernel_rfl) (fun _ _ _ h => h) hS0.out (by kernel_rfl) (fun w' hS' => by obtain ⟨⟨h0, h1⟩, -⟩ := hS'.1.two; go_simp) ?_
  refine T_take (i := 4) (v := t) rfl (by kernel_rfl) (by kernel_rfl) (by kernel_rfl) (by kernel_rfl) (fun _ _ _ h => h) hS0.out (by kernel_rfl) (fun w' hS' => by obtain ⟨⟨h0, h1⟩, -⟩ := hS'.1.two; go_simp) ?_
  refine T_step (i := 2) rfl (by kernel_rfl) rfl (by kernel_rfl) ?_
  intro K hK
  go_simp
  refine (i_numP (ptOf c.1) u _ (by rw [R1.out.2.2.2.2]; exact HS.out.below hS0.out.2)).mono ?_
  rintro e' wT1 ⟨rfl, hb1⟩
  have hS1 := Lib.hid (show (fun (w' : World) => Bk w' w.heap.size #[u, t] 26 ∧ Below w.heap.size w w') wT1 from ⟨hS0.out.1.below hb1, hS0.out.2.trans (hb1.mono hS0.out.2.size)⟩)
  refine hK.out _ _ hS1.out ?_
  clear hK K
  refine T_step (i := 5) rfl (by kernel_rfl) rfl (by kernel_rfl) ?_
  intro K hK
  go_simp
  refine (i_numP (ptOf c.2) t _ (by rw [R2.out.2.2.2.2]; exact HT.out.below hS1.out.2)).mono ?_
  rintro e' wT2 ⟨rfl, hb2⟩
  have hS2 := Lib.hid (show (fun (w' : World) => Bk w' w.heap.size #[u, t] 26 ∧ Below w.heap.size w w') wT2 from ⟨hS1.out.1.below hb2, hS1.out.2.trans (hb2.mono hS1.out.2.size)⟩)
  refine hK.out _ _ hS2.out ?_
  clear hK K
  refine T_step (i := 6) rfl (by kernel_rfl) rfl (by kernel_rfl) ?_
  intro K hK
  go_simp
  refine (i_raysfrom (ptOf c.2) _ (ptOf c.1) _ RR.out.2.2.2 (Nat.le_refl _)).mono ?_
  rintro e' wT3 ⟨⟨pp, rfl, hrl⟩, hb3⟩
  have HRL := Lib.hid hrl
  clear hrl
  have hS3 := Lib.hid (show (fun (w' : World) => Bk w' w.heap.size #[u, t] 26 ∧ Below w.heap.size w w') wT3 from ⟨hS2.out.1.below hb3, hS2.out.2.trans (hb3.mono hS2.out.2.size)⟩)
  refine hK.out _ _ hS3.out ?_
  clear hK K
  refine T_last (i := 7) rfl (by kernel_rfl) (by kernel_rfl) rfl (by kernel_rfl) ?_
  go_simp
  have HB := Lib.hid hS3.out.2
  clear hS0 hS1 hS2 hS3
  go_wp2
  go_ret
  exact ⟨⟨_, rfl, HRL.out⟩, HB.out⟩

theorem owp_rd {lo hi : Nat} {w : World} {v : Value} {ps : List P2} (h : OwP lo hi w v ps) : Rd3 w v (ps.map fun p => (p.1, p.2, 0)) := by
  obtain ⟨a, c, rfl, hc, hm⟩ := h.shape
  refine ⟨a, c, by simp, by simpa using hc, hm, fun k hk => ?_⟩
  rw [List.length_map] at hk
  obtain ⟨b, e1, _, _, hb, hlt, _, ⟨q0, q1, q2⟩, _⟩ := h.at3 k hk rfl
  refine ⟨b, 0, e1, hlt, ?_, ?_, ?_⟩ <;> simp only [List.getElem_map, Nat.zero_add] <;> assumption
theorem cut_rows (ps : List P2) : cutT 2 (ps.map fun p => (p.1, p.2, 0)) = ps.map rowOf := by
  unfold cutT
  rw [List.map_map]
  rfl
theorem made_rows {w : World} {r r' : List (List Int)} {e : Ending} {w' : World} (h : r' = r) (g : MadeR w r e w') : MadeR w r' e w' := by subst h; exact g
set_option maxRecDepth 100000 in
set_option maxHeartbeats 1600000 in
theorem i_split (c : Cn) (v : Value) (w : World) (hv : Cv w v c) :
    Calls Try.prog 12 #[v] w (MadeR w (splitR c)) := by
  have HC := Lib.hid hv
  obtain ⟨u, t, rfl, hs, ht⟩ := hv
  have HS := Lib.hid hs
  have HT := Lib.hid ht
  have K := Lib.hid (Bk.new w #[u, t] 26)
  have B0 := Lib.hid (below1 w (.cells #[u, t] 26))
  clear hs ht
  obtain ⟨⟨l0, l1⟩, -⟩ := K.out.two
  go_enter Try.func12, Try.ntmps12
  go_wp2_with fail
  refine (i_cone c _ _ (HC.out.below B0.out)).mono ?_
  rintro e w1 ⟨rfl, hb⟩
  have K1 := Lib.hid (K.out.below hb)
  have B1 := Lib.hid (B0.out.trans (hb.mono B0.out.size))
  clear hb l0 l1
  cases h1 : coneR c
  · have E := Lib.hid (show splitR c = [] by unfold splitR; rw [h1]; rfl)
    clear h1
    go_wp2_with fail
    go_ret
    exact made_rows E.out ⟨⟨_, rfl, OwR.nil⟩, B1.out⟩
  have C1 := Lib.hid h1
  have RR := Lib.hid (coneR_t h1)
  have E := Lib.hid (show splitR c = (raysL (ptOf c.1) (ptOf c.2)).map rowOf by unfold splitR; rw [h1]; rfl)
  have HL := Lib.hid (raysL_len RR.out.2.2.2)
  clear h1
  obtain ⟨⟨l0, l1⟩, -⟩ := K1.out.two
  go_wp2_with fail
  refine (i_raysof c C1.out _ _ (HC.out.below B1.out)).mono ?_
  rintro e w2 ⟨⟨pp, rfl, hrl⟩, hb⟩
  have B2 := Lib.hid (B1.out.trans (hb.mono B1.out.size))
  obtain ⟨pq, rfl⟩ := hrl.ptr
  obtain ⟨all, hall⟩ : ∃ l, raysL (ptOf c.1) (ptOf c.2) = l := ⟨_, rfl⟩
  rw [hall] at hrl E HL
  have HRL := Lib.hid hrl
  have bL := HL.out
  clear hb l0 l1 hrl hall
  go_wp2_with fail
  go_loopw [3, 4] (fun s r wr => ∃ done rest : List P2, done ++ rest = all ∧ OwP w2.heap.size wr.heap.size wr s done ∧ RayL w2 r rest ∧ Below w2.heap.size w2 wr) (fun s _ _ => all.length + 1 - slen s)
  case atStart => exact ⟨[], all, rfl, OwE.nil, HRL.out, Below.refl _ _⟩
  case round =>
    obtain ⟨done, rest, hall, ho, hr, hbr⟩ := hrel
    have HO := Lib.hid ho
    have HB := Lib.hid hbr
    have HAL := Lib.hid hall
    obtain ⟨sa, sc, rfl, _, _⟩ := ho.shape
    clear ho
    match rest, hr with
    | [], hr =>
      obtain rfl := hr
      clear hbr hall
      go_wp2_with fail
      have hd : done = all := by rw [← HAL.out, List.append_nil]
      have hl2 : (done.map fun p : P2 => ((p.1, p.2, (0 : Int)) : T3)).length ≤ 1048576 := by rw [List.length_map, hd]; omega
      refine (i_vecs2 (done.map fun p => (p.1, p.2, 0)) hl2 _ _ (owp_rd HO.out)).mono ?_
      rintro e w3 ⟨⟨q, rfl, hq⟩, hb3⟩
      have HQ := Lib.hid hq
      have B3 := Lib.hid (((B2.out.trans (HB.out.mono B2.out.size))).trans (hb3.mono (Nat.le_trans B2.out.size HB.out.size)))
      have SZ := Lib.hid (Nat.le_trans B2.out.size HB.out.size)
      clear hq hb3 hl2
      go_wp2
      go_ret
      refine made_rows ?_ ⟨⟨_, rfl, HQ.out.mono SZ.out (Nat.le_refl _)⟩, B3.out⟩
      rw [E.out, cut_rows, hd]
    | p :: rest, hr =>
      obtain ⟨b, nx, rfl, hk, hr⟩ := hr
      obtain ⟨nq, rfl⟩ := hr.ptr
      have HR := Lib.hid hr
      have KB := Lib.hid (hk.since hbr hk.lt)
      have c0 := KB.out.cell 0 (v := .int .i64 p.1) rfl
      have c1 := KB.out.cell 1 (v := .int .i64 p.2) rfl
      have c2 := KB.out.cell 2 (v := .int .i64 0) rfl
      have c3 := KB.out.cell 3 (v := .pointer nq) rfl
      have hlen : done.length ≤ 1048576 := by have h := congrArg List.length hall; rw [List.length_append, List.length_cons] at h; omega
      have LN := Lib.hid (show done.length + 1 ≤ all.length by have h := congrArg List.length hall; rw [List.length_append, List.length_cons] at h; omega)
      have K2B := Lib.hid hk
      clear hr hk hall
      go_wp2_with (at_builtin; go_must (refine list_app_np rfl _ _ rfl w2.heap.size wr.heap.size _ done p rfl (HO.out.below (below1 _ _)) _ rfl (heap_alloc_new _ _) hlen (by have := HB.out.size; simp; omega) ?_; intro g8 c8 w8 ho8 hb8; have B8 := (HB.out.trans ((below1 wr (.cells #[.int .i64 p.1, .int .i64 p.2, .int .i64 0] 85)).mono HB.out.size)).trans ((Below.refl w2.heap.size _).grown hb8 (by have := HB.out.size; simp; omega) (fun q hq => (HO.out.1.lt q hq).1)); have d3 := (K2B.out.since B8 K2B.out.lt).cell 3 (v := .pointer nq) rfl))
      have HO8 := Lib.hid ho8
      have HB8 := Lib.hid B8
      clear ho8 hb8
      refine ⟨⟨done ++ [p], rest, by rw [List.append_assoc]; exact HAL.out, by simpa using HO8.out, HR.out, HB8.out⟩, ?_⟩
      have := LN.out
      simp only [slen]
      omega
end Go.Proofs.Ytjijgagdaolkcaa
/- The program's TurnsOf. -/
namespace Go.Proofs.Ytjijgagdaolkcaa
open Go Go.RowKit Go.Lib

theorem bk4 {w : World} {b : Nat} {x y z t : Value} {T : TypeId} (h : Bk w b #[x, y, z, t] T) : w.cell? ⟨b, 0, none⟩ = some x ∧ w.cell? ⟨b, 1, none⟩ = some y ∧ w.cell? ⟨b, 2, none⟩ = some z ∧ w.cell? ⟨b, 3, none⟩ = some t := ⟨h.cell 0 rfl, h.cell 1 rfl, h.cell 2 rfl, h.cell 3 rfl⟩
theorem wp_app_one {o : Oper} {a : Act} {w : World} {K : Act → World → Prop} {Q : Exit → Act → World → Prop} (s x : Operand)
    (ho : o.op = .call { callee := .builtin .append, args := #[s, x], argTypes := #[24, 24] })
    (base : Nat) (v : Value) (xs : List Int) (z : Int) (hs : a.eval s = v) (hown : w.ownsRow base 3 1 v xs.length (intVals xs))
    (H : Nat) (hx : a.eval x = .slice (some ⟨H, 0, none⟩) 1 1) (hnew : w.heap[H]? = some (.cells #[.int .i64 z] 3 (0, 0)))
    (hn : xs.length ≤ 1048576) (hbase : base ≤ w.heap.size)
    (k : ∀ g cap w', w'.ownsRow base 3 1 (.slice (some ⟨g, 0, none⟩) (xs.length + 1) cap) (xs.length + 1) (intVals (xs ++ [z])) → w.grownBy w' v.ownBlock → K (a.put o.dst (.slice (some ⟨g, 0, none⟩) (xs.length + 1) cap)) w') : o.wp Try.prog a w K Q := by
  obtain ⟨i0, hi, hz0, hz1, hz2⟩ := info_parts info_int'
  refine wp_append_lies w s x 24 ho base 3 i0 _ 1 8 Try.underlying24 hi hz0 hz1 hz2 rfl (by omega) v xs.length _ hs hown ⟨H, 0, none⟩ 1 1 [.int .i64 z] hx rfl (World.news_of_block (cs := #[.int .i64 z]) hnew) (by simp [Value.oneCell']) (by omega) (by unfold maxLen; omega) (by omega) hbase w.heap.size rfl ?_
  intro g cap w' h1 h2 h3 h4
  exact k g cap w' (by simpa [intVals] using h1) h2
theorem own_len {w : World} {base n : Nat} {v : Value} {xs : List Int} (h : w.ownsRow base 3 1 v n (intVals xs)) : w.ownsRow base 3 1 v xs.length (intVals xs) := by
  have : n = xs.length := by have := h.1; rw [intVals_len] at this; omega
  subst this; exact h
theorem raysF_30 {v : P2} (hv : Cn30 v) : ∀ (n : Nat) (u : P2), Two u v → ∀ p ∈ raysF n u v, Cn30 p
  | 0, _, _, p, hp => by simp [raysF] at hp; subst hp; exact hv
  | n + 1, u, h, p, hp => by
    rw [raysF] at hp
    split at hp
    · rename_i hd
      rcases List.mem_cons.1 hp with rfl | hp
      · exact h.1
      · exact raysF_30 hv n _ (h.next hd).2 p hp
    · simp at hp; subst hp; exact hv
theorem rays_two {u v : P2} (h : Two u v) (hd : 0 < crP u v) : ∃ y r, raysL u v = u :: y :: r := by
  rw [raysL_step h hd]
  obtain ⟨-, r, e⟩ := raysL_chain (h.next hd).2
  exact ⟨_, r, by rw [e]⟩
theorem made_ints {w : World} {r r' : List Int} {e : Ending} {w' : World} (h : r' = r) (g : Made w r e w') : Made w r' e w' := by subst h; exact g
set_option maxRecDepth 100000 in
set_option maxHeartbeats 1600000 in
theorem i_cturns (c : Cn) (v : Value) (w : World) (hv : Cv w v c) :
    Calls Try.prog 13 #[v] w (Made w (cturnsR c)) := by
  have HC := Lib.hid hv
  obtain ⟨u, t, rfl, hs, ht⟩ := hv
  have HS := Lib.hid hs
  have HT := Lib.hid ht
  have K := Lib.hid (Bk.new w #[u, t] 26)
  have B0 := Lib.hid (below1 w (.cells #[u, t] 26))
  clear hs ht
  obtain ⟨⟨l0, l1⟩, -⟩ := K.out.two
  go_enter Try.func13, Try.ntmps13
  go_wp2_with fail
  refine (i_cone c _ _ (HC.out.below B0.out)).mono ?_
  rintro e w1 ⟨rfl, hb⟩
  have K1 := Lib.hid (K.out.below hb)
  have B1 := Lib.hid (B0.out.trans (hb.mono B0.out.size))
  clear hb l0 l1
  cases h1 : coneR c
  · have E := Lib.hid (show cturnsR c = [] by unfold cturnsR; rw [h1]; rfl)
    clear h1
    go_wp2_with fail
    go_ret
    exact made_ints E.out ⟨⟨_, rfl, OwnV.nil⟩, B1.out⟩
  have C1 := Lib.hid h1
  have RR := Lib.hid (coneR_t h1)
  have E := Lib.hid (show cturnsR c = turnsP (raysL (ptOf c.1) (ptOf c.2)) by unfold cturnsR; rw [h1]; rfl)
  have HL := Lib.hid (raysL_len RR.out.2.2.2)
  have H30 := Lib.hid (show ∀ p ∈ raysL (ptOf c.1) (ptOf c.2), Cn30 p from raysF_30 RR.out.2.2.2.2.1 _ _ RR.out.2.2.2)
  have HTW := Lib.hid (rays_two RR.out.2.2.2 RR.out.2.2.1)
  clear h1
  obtain ⟨⟨l0, l1⟩, -⟩ := K1.out.two
  go_wp2_with fail
  refine (i_raysof c C1.out _ _ (HC.out.below B1.out)).mono ?_
  rintro e w2 ⟨⟨pp, rfl, hrl⟩, hb⟩
  have B2 := Lib.hid (B1.out.trans (hb.mono B1.out.size))
  obtain ⟨x0, r0, e0⟩ := HTW.out
  obtain ⟨all, hall⟩ : ∃ l, raysL (ptOf c.1) (ptOf c.2) = l := ⟨_, rfl⟩
  have H30 := Lib.hid (show ∀ p ∈ all, Cn30 p by rw [← hall]; exact H30.out)
  rw [hall] at hrl E HL e0
  have bL := HL.out
  have HRL := Lib.hid hrl
  have E0 := Lib.hid e0
  rw [e0] at hrl
  obtain ⟨b0, nx0, rfl, hk0, hr0⟩ := hrl
  obtain ⟨b1, nx1, rfl, hk1, hr1⟩ := hr0
  obtain ⟨h0, h1, h2, h3⟩ := bk4 hk0
  have HK0 := Lib.hid hk0
  have HK1 := Lib.hid hk1
  have HR1 := Lib.hid hr1
  clear hb l0 l1 hall hr1 e0 hk1 hk0
  go_wp2_with fail
  go_loopw [3, 4, 5] (fun s p q wr => ∃ (done : List Int) (x y : P2) (rest : List P2) (bx by_ : Nat) (nx : Value), turnsP all = done ++ turnsP (x :: y :: rest) ∧ (∀ p ∈ x :: y :: rest, Cn30 p) ∧ OwnV 3 w2.heap.size wr.heap.size wr s (intVals done) ∧ p = .pointer (some ⟨bx, 0, none⟩) ∧ q = .pointer (some ⟨by_, 0, none⟩) ∧ Bk w2 bx #[.int .i64 x.1, .int .i64 x.2, .int .i64 0, .pointer (some ⟨by_, 0, none⟩)] 87 ∧ Bk w2 by_ #[.int .i64 y.1, .int .i64 y.2, .int .i64 0, nx] 87 ∧ RayL w2 nx rest ∧ Below w2.heap.size w2 wr) (fun s _ _ _ => all.length + 1 - slen s)
  case atStart => exact ⟨[], ptOf c.1, x0, r0, b0, b1, nx1, by rw [← E0.out]; rfl, by rw [← E0.out]; exact H30.out, OwnV.nil, rfl, rfl, HK0.out, HK1.out, HR1.out, Below.refl _ _⟩
  case round =>
    obtain ⟨done, x, y, rest, bx, by_, nx, htu, h30, ho, rfl, rfl, hkx, hky, hr, hbr⟩ := hrel
    have HO := Lib.hid ho
    have HB := Lib.hid hbr
    have HTU := Lib.hid htu
    have KX2 := Lib.hid hkx
    have KY2 := Lib.hid hky
    have KX := Lib.hid (hkx.since hbr hkx.lt)
    have KY := Lib.hid (hky.since hbr hky.lt)
    obtain ⟨sa, sc, rfl, _⟩ := ho.shape1
    rw [intVals_len] at HO ⊢
    have HLN := Lib.hid (show done.length + (turnsP (x :: y :: rest)).length ≤ all.length by rw [← List.length_append, ← htu, turnsP_len]; omega)
    match rest, hr with
    | [], hr =>
      obtain rfl := hr
      obtain ⟨y0, y1, y2, y3⟩ := bk4 KY.out
      clear ho hbr htu hkx hky h30
      go_wp2_with fail
      go_ret
      refine made_ints ?_ ⟨⟨_, rfl, HO.out.mono B2.out.size (Nat.le_refl _)⟩, B2.out.trans (HB.out.mono B2.out.size)⟩
      rw [E.out, HTU.out]
      simp [turnsP]
    | z :: rest, hr =>
      obtain ⟨bz, nz, rfl, hkz, hr⟩ := hr
      obtain ⟨nq, rfl⟩ := hr.ptr
      have HR := Lib.hid hr
      have KZ2 := Lib.hid hkz
      have KZ := Lib.hid (hkz.since hbr hkz.lt)
      have CD := Lib.hid (fun W => i_pdet x z (h30 x (by simp)).bd4 (h30 z (by simp)).bd4 W)
      have H3 := Lib.hid h30
      have hlen : done.length ≤ 1048576 := by have := HLN.out; omega
      obtain ⟨cr, hcr⟩ : ∃ cr, crP x z = cr := ⟨_, rfl⟩
      rw [show x.1 * z.2 - x.2 * z.1 = cr from hcr] at CD
      have HCR := Lib.hid hcr
      obtain ⟨y0, y1, y2, y3⟩ := bk4 KY.out
      clear ho hbr htu hkx hky h30 hr hkz hcr
      go_wp2_with fail
      refine T_begin (z := fun k => 14 < k) (S := fun (w' : World) => Bk w' bx #[.int .i64 x.1, .int .i64 x.2, .int .i64 0, .pointer (some ⟨by_, 0, none⟩)] 87 ∧ Bk w' by_ #[.int .i64 y.1, .int .i64 y.2, .int .i64 0, .pointer (some ⟨bz, 0, none⟩)] 87 ∧ Bk w' bz #[.int .i64 z.1, .int .i64 z.2, .int .i64 0, .pointer nq] 87 ∧ Below w2.heap.size w2 w') (by kernel_rfl) ?_
      show wpAnyT _ _ _ _ _ _ 16 _ _ _
      have hS0 := Lib.hid (show (fun (w' : World) => Bk w' bx #[.int .i64 x.1, .int .i64 x.2, .int .i64 0, .pointer (some ⟨by_, 0, none⟩)] 87 ∧ Bk w' by_ #[.int .i64 y.1, .int .i64 y.2, .int .i64 0, .pointer (some ⟨bz, 0, none⟩)] 87 ∧ Bk w' bz #[.int .i64 z.1, .int .i64 z.2, .int .i64 0, .pointer nq] 87 ∧ Below w2.heap.size w2 w') (wr.drew) from ⟨KX.out, KY.out, KZ.out, HB.out.drew⟩)
      refine T_take (i := 0) (v := .slice sa done.length sc) rfl (by kernel_rfl) (by kernel_rfl) (by kernel_rfl) (by kernel_rfl) (fun _ _ _ h => h) hS0.out (by kernel_rfl) (fun w' hS' => by obtain ⟨h0, h1, h2, h3⟩ := bk4 hS'.1; obtain ⟨g0, g1, g2, g3⟩ := bk4 hS'.2.1; obtain ⟨f0, f1, f2, f3⟩ := bk4 hS'.2.2.1; go_simp) ?_
      refine T_take (i := 1) (v := .pointer (some ⟨bx, 0, none⟩)) rfl (by kernel_rfl) (by kernel_rfl) (by kernel_rfl) (by kernel_rfl) (fun _ _ _ h => h) hS0.out (by kernel_rfl) (fun w' hS' => by obtain ⟨h0, h1, h2, h3⟩ := bk4 hS'.1; obtain ⟨g0, g1, g2, g3⟩ := bk4 hS'.2.1; obtain ⟨f0, f1, f2, f3⟩ := bk4 hS'.2.2.1; go_simp) ?_
      refine T_take (i := 2) (v := .pointer (some ⟨bx, 0, none⟩)) rfl (by kernel_rfl) (by kernel_rfl) (by kernel_rfl) (by kernel_rfl) (fun _ _ _ h => h) hS0.out (by kernel_rfl) (fun w' hS' => by obtain ⟨h0, h1, h2, h3⟩ := bk4 hS'.1; obtain ⟨g0, g1, g2, g3⟩ := bk4 hS'.2.1; obtain ⟨f0, f1, f2, f3⟩ := bk4 hS'.2.2.1; go_simp) ?_
      refine T_take (i := 3) (v := .pointer (some ⟨bx, 0, none⟩)) rfl (by kernel_rfl) (by kernel_rfl) (by kernel_rfl) (by kernel_rfl) (fun _ _ _ h => h) hS0.out (by kernel_rfl) (fun w' hS' => by obtain ⟨h0, h1, h2, h3⟩ := bk4 hS'.1; obtain ⟨g0, g1, g2, g3⟩ := bk4 hS'.2.1; obtain ⟨f0, f1, f2, f3⟩ := bk4 hS'.2.2.1; go_simp) ?_
      refine T_take (i := 4) (v := .agg #[.int .i64 x.1, .int .i64 x.2, .int .i64 0]) rfl (by kernel_rfl) (by kernel_rfl) (by kernel_rfl) (by kernel_rfl) (fun _ _ _ h => h) hS0.out (by kernel_rfl) (fun w' hS' => by obtain ⟨h0, h1, h2, h3⟩ := bk4 hS'.1; obtain ⟨g0, g1, g2, g3⟩ := bk4 hS'.2.1; obtain ⟨f0, f1, f2, f3⟩ := bk4 hS'.2.2.1; go_simp) ?_
      refine T_take (i := 5) (v := .pointer (some ⟨by_, 0, none⟩)) rfl (by kernel_rfl) (by kernel_rfl) (by kernel_rfl) (by kernel_rfl) (fun _ _ _ h => h) hS0.out (by kernel_rfl) (fun w' hS' => by obtain ⟨h0, h1, h2, h3⟩ := bk4 hS'.1; obtain ⟨g0, g1, g2, g3⟩ := bk4 hS'.2.1; obtain ⟨f0, f1, f2, f3⟩ := bk4 hS'.2.2.1; go_simp) ?_
      refine T_take (i := 6) (v := .pointer (some ⟨by_, 0, none⟩)) rfl (by kernel_rfl) (by kernel_rfl) (by kernel_rfl) (by kernel_rfl) (fun _ _ _ h => h) hS0.out (by kernel_rfl) (fun w' hS' => by obtain ⟨h0, h1, h2, h3⟩ := bk4 hS'.1; obtain ⟨g0, g1, g2, g3⟩ := bk4 hS'.2.1; obtain ⟨f0, f1, f2, f3⟩ := bk4 hS'.2.2.1; go_simp) ?_
      refine T_take (i := 7) (v := .pointer (some ⟨by_, 3, none⟩)) rfl (by kernel_rfl) (by kernel_rfl) (by kernel_rfl) (by kernel_rfl) (fun _ _ _ h => h) hS0.out (by kernel_rfl) (fun w' hS' => by obtain ⟨h0, h1, h2, h3⟩ := bk4 hS'.1; obtain ⟨g0, g1, g2, g3⟩ := bk4 hS'.2.1; obtain ⟨f0, f1, f2, f3⟩ := bk4 hS'.2.2.1; go_simp) ?_
      refine T_take (i := 8) (v := .pointer (some ⟨bz, 0, none⟩)) rfl (by kernel_rfl) (by kernel_rfl) (by kernel_rfl) (by kernel_rfl) (fun _ _ _ h => h) hS0.out (by kernel_rfl) (fun w' hS' => by obtain ⟨h0, h1, h2, h3⟩ := bk4 hS'.1; obtain ⟨g0, g1, g2, g3⟩ := bk4 hS'.2.1; obtain ⟨f0, f1, f2, f3⟩ := bk4 hS'.2.2.1; go_simp) ?_
      refine T_take (i := 9) (v := .pointer (some ⟨bz, 0, none⟩)) rfl (by kernel_rfl) (by kernel_rfl) (by kernel_rfl) (by kernel_rfl) (fun _ _ _ h => h) hS0.out (by kernel_rfl) (fun w' hS' => by obtain ⟨h0, h1, h2, h3⟩ := bk4 hS'.1; obtain ⟨g0, g1, g2, g3⟩ := bk4 hS'.2.1; obtain ⟨f0, f1, f2, f3⟩ := bk4 hS'.2.2.1; go_simp) ?_
      refine T_take (i := 10) (v := .pointer (some ⟨bz, 0, none⟩)) rfl (by kernel_rfl) (by kernel_rfl) (by kernel_rfl) (by kernel_rfl) (fun _ _ _ h => h) hS0.out (by kernel_rfl) (fun w' hS' => by obtain ⟨h0, h1, h2, h3⟩ := bk4 hS'.1; obtain ⟨g0, g1, g2, g3⟩ := bk4 hS'.2.1; obtain ⟨f0, f1, f2, f3⟩ := bk4 hS'.2.2.1; go_simp) ?_
      refine T_take (i := 11) (v := .agg #[.int .i64 z.1, .int .i64 z.2, .int .i64 0]) rfl (by kernel_rfl) (by kernel_rfl) (by kernel_rfl) (by kernel_rfl) (fun _ _ _ h => h) hS0.out (by kernel_rfl) (fun w' hS' => by obtain ⟨h0, h1, h2, h3⟩ := bk4 hS'.1; obtain ⟨g0, g1, g2, g3⟩ := bk4 hS'.2.1; obtain ⟨f0, f1, f2, f3⟩ := bk4 hS'.2.2.1; go_simp) ?_
      refine T_step (i := 12) rfl (by kernel_rfl) rfl (by kernel_rfl) ?_
      intro K hK
      go_simp
      refine (CD.out _).mono ?_
      rintro e' wT1 ⟨rfl, hb1⟩
      have hS1 := Lib.hid (show (fun (w' : World) => Bk w' bx #[.int .i64 x.1, .int .i64 x.2, .int .i64 0, .pointer (some ⟨by_, 0, none⟩)] 87 ∧ Bk w' by_ #[.int .i64 y.1, .int .i64 y.2, .int .i64 0, .pointer (some ⟨bz, 0, none⟩)] 87 ∧ Bk w' bz #[.int .i64 z.1, .int .i64 z.2, .int .i64 0, .pointer nq] 87 ∧ Below w2.heap.size w2 w') wT1 from ⟨hS0.out.1.below hb1, hS0.out.2.1.below hb1, hS0.out.2.2.1.below hb1, hS0.out.2.2.2.trans (hb1.mono hS0.out.2.2.2.size)⟩)
      refine hK.out _ _ hS1.out ?_
      clear hK K
      refine T_step (i := 13) rfl (by kernel_rfl) rfl (by kernel_rfl) ?_
      intro K hK
      go_simp
      have hbx := below1 wT1 (.cells #[.int .i64 cr] 3)
      have hS2 := Lib.hid (show (fun (w' : World) => Bk w' bx #[.int .i64 x.1, .int .i64 x.2, .int .i64 0, .pointer (some ⟨by_, 0, none⟩)] 87 ∧ Bk w' by_ #[.int .i64 y.1, .int .i64 y.2, .int .i64 0, .pointer (some ⟨bz, 0, none⟩)] 87 ∧ Bk w' bz #[.int .i64 z.1, .int .i64 z.2, .int .i64 0, .pointer nq] 87 ∧ Below w2.heap.size w2 w') _ from ⟨hS1.out.1.below hbx, hS1.out.2.1.below hbx, hS1.out.2.2.1.below hbx, hS1.out.2.2.2.trans (hbx.mono hS1.out.2.2.2.size)⟩)
      have HO2 := Lib.hid ((HO.out.below ((Below.refl wr.heap.size wr).drew.trans hb1)).below hbx)
      refine hK.out _ _ hS2.out ?_
      clear hK K
      refine T_step (i := 14) rfl (by kernel_rfl) rfl (by kernel_rfl) ?_
      intro K hK
      refine wp_app_one _ _ (by rfl) w2.heap.size _ done cr (by rfl) (own_len HO2.out.owns) wT1.heap.size (by rfl) (heap_alloc_new wT1 _) hlen hS2.out.2.2.2.size ?_
      intro g8 c8 w8 ho8 hb8
      have B8 := hS2.out.2.2.2.trans ((Below.refl w2.heap.size _).grown hb8 hS2.out.2.2.2.size (fun q hq => (HO2.out.place hq).1))
      have HO8 := Lib.hid (OwnV.of_owns ho8)
      have HB8 := Lib.hid B8
      refine hK.out _ _ ⟨KX2.out.since B8 KX2.out.lt, KY2.out.since B8 KY2.out.lt, KZ2.out.since B8 KZ2.out.lt, B8⟩ ?_
      clear hK K ho8 hb8
      refine T_last (i := 15) rfl (by kernel_rfl) (by kernel_rfl) rfl (by kernel_rfl) ?_
      go_simp
      have KY8 := Lib.hid (KY2.out.since HB8.out KY2.out.lt)
      have HSL := Lib.hid (hS2.out.2.2.2.size)
      clear hS0 hS1 hS2 y0 y1 y2 y3
      obtain ⟨y0, y1, y2, y3⟩ := bk4 KY8.out
      go_wp2_with fail
      refine ⟨⟨done ++ [cr], y, z, rest, by_, bz, .pointer nq, ?_, fun p hp => H3.out p (List.mem_cons_of_mem _ hp), HO8.out, rfl, rfl, KY2.out, KZ2.out, HR.out, HB8.out⟩, ?_⟩
      · rw [HTU.out, turnsP, HCR.out, List.append_assoc]; rfl
      · have := HLN.out
        rw [turnsP] at this
        simp only [slen, List.length_cons] at this ⊢
        omega
end Go.Proofs.Ytjijgagdaolkcaa
/- The model's TurnsOf. -/
namespace Go.Proofs.Ytjijgagdaolkcaa
open Go Go.RowKit Go.Lib

theorem turnsP_get : ∀ (L : List P2) (i : Nat) (h : i + 2 < L.length), (turnsP L)[i]? = some (crP (L[i]'(by omega)) (L[i + 2]'h))
  | x :: y :: z :: r, 0, _ => rfl
  | x :: y :: z :: r, i + 1, h => by
    rw [turnsP]
    have := turnsP_get (y :: z :: r) i (by simp at h ⊢; omega)
    simpa using this
  | [], _, h => by simp at h
  | [_], _, h => by simp at h
  | [_, _], _, h => by simp only [List.length_cons, List.length_nil] at h; omega
theorem chain_get {v : P2} : ∀ (L : List P2) (i : Nat) (h : i + 1 < L.length), Chain v L → crP (L[i]'(by omega)) (L[i + 1]'h) = 1
  | x :: y :: r, 0, _, hc => hc.1
  | x :: y :: r, i + 1, h, hc => by
    have := chain_get (y :: r) i (by simp at h ⊢; omega) hc.2.2.2.2
    simpa using this
  | [], _, h, _ => by simp at h
  | [_], _, h, _ => by simp at h
theorem turns_take {L : List P2} {i : Nat} (h : i + 2 < L.length) : (turnsP L).take (i + 1) = (turnsP L).take i ++ [crP (L[i]'(by omega)) (L[i + 2]'h)] := by
  have hl : i < (turnsP L).length := by rw [turnsP_len]; omega
  rw [List.take_succ_eq_append_getElem hl]
  have := turnsP_get L i h
  rw [List.getElem?_eq_getElem hl] at this
  rw [Option.some.inj this]
theorem wp_app_two {o : Oper} {a : Act} {w : World} {K : Act → World → Prop} {Q : Exit → Act → World → Prop} (s x : Operand)
    (ho : o.op = .call { callee := .builtin .append, args := #[s, x], argTypes := #[24, 24] })
    (base : Nat) (v : Value) (xs : List Int) (z : Int) (hs : a.eval s = v) (hown : w.ownsRow base 3 1 v xs.length (intVals xs))
    (H : Nat) (hx : a.eval x = .slice (some ⟨H, 0, none⟩) 1 1) (hnew : w.heap[H]? = some (.cells #[.int .i64 z] 3 (0, 0)))
    (hn : xs.length ≤ 1048576) (hbase : base ≤ w.heap.size)
    (k : ∀ g cap w', w'.ownsRow base 3 1 (.slice (some ⟨g, 0, none⟩) (xs.length + 1) cap) (xs.length + 1) (intVals (xs ++ [z])) → w.grownBy w' v.ownBlock → (v.ownBlock = some g ∨ w.heap.size ≤ g) → K (a.put o.dst (.slice (some ⟨g, 0, none⟩) (xs.length + 1) cap)) w') : o.wp Try.prog a w K Q := by
  obtain ⟨i0, hi, hz0, hz1, hz2⟩ := info_parts info_int'
  refine wp_append_lies w s x 24 ho base 3 i0 _ 1 8 Try.underlying24 hi hz0 hz1 hz2 rfl (by omega) v xs.length _ hs hown ⟨H, 0, none⟩ 1 1 [.int .i64 z] hx rfl (World.news_of_block (cs := #[.int .i64 z]) hnew) (by simp [Value.oneCell']) (by omega) (by unfold maxLen; omega) (by omega) hbase w.heap.size rfl ?_
  intro g cap w' h1 h2 h3 h4
  exact k g cap w' (by simpa [intVals] using h1) h2 (h3.elim .inl (fun h => .inr (by omega)))
theorem bit_of (b : Bool) (w : World) : Calls Try.prog 67 #[.bool b] w fun e w' => e = .returned (.int .i64 (if b = true then 1 else 0)) ∧ w = w' := by
  cases b with
  | true =>
    go_enter Try.func67, Try.ntmps67
    go_wp2
    go_ret
    exact ⟨rfl, rfl⟩
  | false =>
    go_enter Try.func67, Try.ntmps67
    go_wp2
    go_ret
    exact ⟨rfl, rfl⟩
/-- What the loop meets at three neighbors. -/
theorem three_at {v : P2} {L : List P2} (hc : Chain v L) (h30 : ∀ p ∈ L, Cn30 p) {j : Nat} (h1 : 1 ≤ j) (h2 : j + 1 < L.length) :
    ∃ (x y z : P2) (t : Int), L[j - 1]? = some x ∧ L[j]? = some y ∧ L[j + 1]? = some z ∧ Cn30 x ∧ Cn30 y ∧ Cn30 z ∧ crP x y = 1 ∧ x.1 + z.1 = t * y.1 ∧ x.2 + z.2 = t * y.2 ∧ (turnsP L).take j = (turnsP L).take (j - 1) ++ [t] ∧ -1800 ≤ t ∧ t ≤ 1800 := by
  have e1 := chain_get L (j - 1) (by omega) hc
  have e2 := chain_get L j (by omega) hc
  have hx := h30 (L[j - 1]'(by omega)) (List.getElem_mem _)
  have hz := h30 (L[j + 1]'(by omega)) (List.getElem_mem _)
  have e3 := turns_take (L := L) (i := j - 1) (by omega)
  obtain ⟨i, rfl⟩ : ∃ i, j = i + 1 := ⟨j - 1, by omega⟩
  simp only [Nat.add_sub_cancel] at *
  obtain ⟨s1, s2⟩ := turn_sum e1 e2
  have bd := cr_bd hx hz
  exact ⟨_, _, _, _, List.getElem?_eq_getElem (by omega), List.getElem?_eq_getElem (by omega), List.getElem?_eq_getElem (by omega), hx, h30 _ (List.getElem_mem _), hz, e1, s1, s2, e3, bd.1, bd.2⟩
set_option maxRecDepth 100000 in
set_option maxHeartbeats 3200000 in
theorem s_cturns (c : Cn) (v : Value) (w : World) (hv : Cv w v c) :
    Calls Try.prog 21 #[v] w (Made w (cturnsR c)) := by
  have HC := Lib.hid hv
  obtain ⟨u, t, rfl, hs, ht⟩ := hv
  have K := Lib.hid (Bk.new w #[u, t] 26)
  have B1 := Lib.hid (below2 w (.cells #[u, t] 26) (.cells #[] 3))
  have KE := Lib.hid (K.out.alloc (.cells #[] 3))
  obtain ⟨⟨l0, l1⟩, -⟩ := KE.out.two
  clear hs ht
  obtain ⟨L, hL, hT, hlen, h3⟩ : ∃ L : List P2, splitR c = L.map rowOf ∧ cturnsR c = turnsP L ∧ L.length ≤ 1801 ∧ ∃ V, Chain V L ∧ ∀ p ∈ L, Cn30 p := by
    cases hc : coneR c with
    | false => exact ⟨[], by unfold splitR; rw [hc]; rfl, by unfold cturnsR; rw [hc]; rfl, by simp, (0, 0), trivial, fun p hp => by simp at hp⟩
    | true =>
      have RR := (coneR_t hc).2.2.2
      exact ⟨raysL (ptOf c.1) (ptOf c.2), by unfold splitR; rw [hc]; rfl, by unfold cturnsR; rw [hc]; rfl, raysL_len RR, ptOf c.2, (raysL_chain RR).1, raysF_30 RR.2.1 _ _ RR⟩
  obtain ⟨V, hch, h30⟩ := h3
  have TH := Lib.hid (fun j h1 h2 => three_at hch h30 (j := j) h1 h2)
  have ET := Lib.hid hT
  have CS := Lib.hid (fun A W hA => s_split c A W hA)
  rw [hL] at CS
  clear hL hT hch h30
  go_enter Try.func21, Try.ntmps21
  go_wp2_with fail
  refine (CS.out _ _ (HC.out.below B1.out)).mono ?_
  rintro e w2 ⟨⟨lv, rfl, hlv⟩, hb⟩
  have B2 := Lib.hid (B1.out.trans (hb.mono B1.out.size))
  obtain ⟨la, lc, rfl, hlm, _⟩ := hlv.rw.shape
  have hlv2 := hlv.mono (lo' := w.heap.size + 2) (by simp) (Nat.le_refl _)
  rw [List.length_map] at hlm hlv2 ⊢
  unfold maxLen at hlm
  have OE := Lib.hid (show OwnV 3 (w.heap.size + 1) (w.heap.size + 2) w2 (.slice (some ⟨w.heap.size + 1, 0, none⟩) 0 0) (intVals []) by
    have h := OwnV.of_owns (owns_none (w := w.alloc (.cells #[u, t] 26)) (base := w.heap.size + 1) (e := 3) (by simp))
    have h2 := h.below hb
    simpa [intVals] using h2)
  have SZ := Lib.hid (show w.heap.size + 2 ≤ w2.heap.size by have := hb.size; simp at this; omega)
  clear hb hlv l0 l1
  have HLV := Lib.hid hlv2
  clear hlv2
  go_wp2_with fail
  go_loopw [3, 5] (fun o i wr => ∃ (j : Nat) (done : List Int) (ob oc : Nat), 1 ≤ j ∧ i = .int .i64 j ∧ (j = 1 ∨ j + 1 ≤ L.length) ∧ done = (turnsP L).take (j - 1) ∧ o = .slice (some ⟨ob, 0, none⟩) done.length oc ∧ OwnV 3 (w.heap.size + 1) wr.heap.size wr (.slice (some ⟨ob, 0, none⟩) done.length oc) (intVals done) ∧ (ob < w.heap.size + 2 ∨ w2.heap.size ≤ ob) ∧ Mid (w.heap.size + 2) w2.heap.size w2 wr ∧ w2.heap.size ≤ wr.heap.size ∧ Below w.heap.size w wr) (fun _ i _ => L.length + 1 - (RowKit.intOf i).toNat)
  case atStart => exact ⟨1, [], w.heap.size + 1, 0, Nat.le_refl _, rfl, .inl rfl, rfl, rfl, OE.out.mono (Nat.le_refl _) SZ.out, .inl (Nat.lt_succ_self _), Mid.refl _ _ _, Nat.le_refl _, B2.out⟩
  case round =>
    obtain ⟨j, done, ob, oc, hj1, rfl, hj2, hdone, rfl, ho, hob, hmid, hws, hbr⟩ := hrel
    have HO := Lib.hid ho
    have HB := Lib.hid hbr
    have HOB := Lib.hid hob
    have HMID := Lib.hid hmid
    have HWS := Lib.hid hws
    have hjL : j ≤ L.length + 1 := by omega
    have HD := Lib.hid hdone
    have hdl : done.length ≤ 1048576 := by rw [hdone, List.length_take, turnsP_len]; omega
    clear ho hbr hob hmid hdone hws
    by_cases hlt : j + 1 < L.length
    · obtain ⟨x, y, z, t, ex, ey, ez, cx, cy, cz, cxy, s1, s2, htk, tb1, tb2⟩ := TH.out j hj1 hlt
      obtain ⟨jm, hjm⟩ : ∃ jm, j = jm + 1 := ⟨j - 1, by omega⟩
      obtain ⟨jp, hjp⟩ : ∃ jp, jp = j + 1 := ⟨_, rfl⟩
      have RWr := (HLV.out.mid HMID.out).rw
      have mg : ∀ {i : Nat} {p : P2}, L[i]? = some p → ∃ (hi : i < (L.map rowOf).length), (L.map rowOf)[i] = rowOf p := fun {i p} h => ⟨by rw [List.length_map]; exact lt_of_get h, by rw [List.getElem_map]; have := List.getElem?_eq_getElem (lt_of_get h); rw [h] at this; exact congrArg rowOf (Option.some.inj this).symm⟩
      obtain ⟨hix, gx⟩ := mg ex
      obtain ⟨hiy, gy⟩ := mg ey
      obtain ⟨hiz, gz⟩ := mg ez
      obtain ⟨lb, lo, rx, e0, hlbr, hcx, hsx⟩ := RWr.row (j - 1) hix rfl
      subst e0
      obtain ⟨lb', lo', ry, e0, _, hcy, hsy⟩ := RWr.row j hiy rfl
      simp only [Option.some.injEq, Addr.mk.injEq, and_true] at e0
      obtain ⟨rfl, rfl⟩ := e0
      obtain ⟨lb', lo', rz, e0, _, hcz, hsz⟩ := RWr.row (j + 1) hiz rfl
      simp only [Option.some.injEq, Addr.mk.injEq, and_true] at e0
      obtain ⟨rfl, rfl⟩ := e0
      rw [gx] at hsx
      rw [gy] at hsy
      rw [gz] at hsz
      obtain ⟨xb, xo, xc, rfl, _, _, _, _⟩ := row_cells hsx
      obtain ⟨yb, yo, yc, rfl, _, hly, hy0, hy1⟩ := row_cells hsy
      obtain ⟨zb, zo, zc, rfl, _, _, _, _⟩ := row_cells hsz
      have NEY : (w.heap.size + 2 ≤ lb ∧ lb < w2.heap.size) ∧ (w.heap.size + 2 ≤ yb ∧ yb < w2.heap.size) := by
        obtain ⟨b, u', e1, p1, p2, _, hcu, _, hou, _, _⟩ := (HLV.out.mid HMID.out).at j hiy rfl
        simp only [Option.some.injEq, Addr.mk.injEq, and_true] at e1
        obtain ⟨rfl, rfl⟩ := e1
        rw [Nat.zero_add, hcu] at hcy
        obtain rfl := Option.some.inj hcy
        have := hou.place (b := yb) rfl
        exact ⟨⟨p1, p2⟩, this.1, this.2.1⟩
      have NE1 := Lib.hid (show lb ≠ ob by have := HOB.out; omega)
      have NE2 := Lib.hid (show yb ≠ ob by have := HOB.out; omega)
      clear NEY
      have CA := Lib.hid (fun W (hb : Below wr.heap.size wr W) => s_add (rowOf x) (rowOf z) rfl (by simp [rowOf]) 30 (by omega) (bd30 cx) (bd30 cz) (.slice (some ⟨xb, xo, none⟩) 2 xc) (.slice (some ⟨zb, zo, none⟩) 2 zc) W (hsx.below hb) (hsz.below hb))
      rw [show j - 1 = jm by omega] at hcx
      rw [← hjp] at hcz
      have j1 : IntKind.i64.wrap ((j : Int) - 1) = (jm : Int) := by rw [IntWalk.i64_in _ (by omega)]; omega
      have j2 : IntKind.i64.wrap ((j : Int) + 1) = (jp : Int) := by rw [IntWalk.i64_in _ (by omega)]; omega
      have j3 : (jp : Int) < (L.length : Int) := by omega
      have j4 : (0 : Int) ≤ (jm : Int) := by omega
      have j5 : (jm : Int) < (L.length : Int) := by omega
      have j6 : (0 : Int) ≤ (jp : Int) := by omega
      have j7 : (0 : Int) ≤ (j : Int) := by omega
      have j8 : (j : Int) < (L.length : Int) := by omega
      have TK := Lib.hid htk
      have FY := Lib.hid (And.intro cy (And.intro s1 (And.intro s2 cxy)))
      have JJ := Lib.hid (And.intro hjm hjp)
      have LT := Lib.hid hlt
      clear hix hiy hiz gx gy gz hsx hsz hsy mg RWr ex ey ez cx cy cz cxy s1 s2 htk hjm hjp hlt hj2
      go_wp2_with fail
      refine T_begin (z := fun k => 10 < k) (S := fun (w' : World) => w'.cell? ⟨lb, lo + jm, none⟩ = some (.slice (some ⟨xb, xo, none⟩) 2 xc) ∧ w'.cell? ⟨lb, lo + jp, none⟩ = some (.slice (some ⟨zb, zo, none⟩) 2 zc) ∧ Below wr.heap.size wr w') (by kernel_rfl) ?_
      show wpAnyT _ _ _ _ _ _ 12 _ _ _
      have hS0 := Lib.hid (show (fun (w' : World) => w'.cell? ⟨lb, lo + jm, none⟩ = some (.slice (some ⟨xb, xo, none⟩) 2 xc) ∧ w'.cell? ⟨lb, lo + jp, none⟩ = some (.slice (some ⟨zb, zo, none⟩) 2 zc) ∧ Below wr.heap.size wr w') (wr.drew) from ⟨hcx, hcz, (Below.refl _ _).drew⟩)
      refine T_take (i := 0) (v := .slice (some ⟨lb, lo, none⟩) L.length lc) rfl (by kernel_rfl) (by kernel_rfl) (by kernel_rfl) (by kernel_rfl) (fun _ _ _ h => h) hS0.out (by kernel_rfl) (fun w' hS' => by obtain ⟨h0, h1, -⟩ := hS'; go_simp) ?_
      refine T_take (i := 1) (v := .int .i64 j) rfl (by kernel_rfl) (by kernel_rfl) (by kernel_rfl) (by kernel_rfl) (fun _ _ _ h => h) hS0.out (by kernel_rfl) (fun w' hS' => by obtain ⟨h0, h1, -⟩ := hS'; go_simp) ?_
      refine T_take (i := 2) (v := .int .i64 jm) rfl (by kernel_rfl) (by kernel_rfl) (by kernel_rfl) (by kernel_rfl) (fun _ _ _ h => h) hS0.out (by kernel_rfl) (fun w' hS' => by obtain ⟨h0, h1, -⟩ := hS'; go_simp) ?_
      refine T_take (i := 3) (v := .pointer (some ⟨lb, lo + jm, none⟩)) rfl (by kernel_rfl) (by kernel_rfl) (by kernel_rfl) (by kernel_rfl) (fun _ _ _ h => h) hS0.out (by kernel_rfl) (fun w' hS' => by obtain ⟨h0, h1, -⟩ := hS'; go_simp) ?_
      refine T_take (i := 4) (v := .slice (some ⟨xb, xo, none⟩) 2 xc) rfl (by kernel_rfl) (by kernel_rfl) (by kernel_rfl) (by kernel_rfl) (fun _ _ _ h => h) hS0.out (by kernel_rfl) (fun w' hS' => by obtain ⟨h0, h1, -⟩ := hS'; go_simp) ?_
      refine T_take (i := 5) (v := .slice (some ⟨lb, lo, none⟩) L.length lc) rfl (by kernel_rfl) (by kernel_rfl) (by kernel_rfl) (by kernel_rfl) (fun _ _ _ h => h) hS0.out (by kernel_rfl) (fun w' hS' => by obtain ⟨h0, h1, -⟩ := hS'; go_simp) ?_
      refine T_take (i := 6) (v := .int .i64 j) rfl (by kernel_rfl) (by kernel_rfl) (by kernel_rfl) (by kernel_rfl) (fun _ _ _ h => h) hS0.out (by kernel_rfl) (fun w' hS' => by obtain ⟨h0, h1, -⟩ := hS'; go_simp) ?_
      refine T_take (i := 7) (v := .int .i64 jp) rfl (by kernel_rfl) (by kernel_rfl) (by kernel_rfl) (by kernel_rfl) (fun _ _ _ h => h) hS0.out (by kernel_rfl) (fun w' hS' => by obtain ⟨h0, h1, -⟩ := hS'; go_simp) ?_
      refine T_take (i := 8) (v := .pointer (some ⟨lb, lo + jp, none⟩)) rfl (by kernel_rfl) (by kernel_rfl) (by kernel_rfl) (by kernel_rfl) (fun _ _ _ h => h) hS0.out (by kernel_rfl) (fun w' hS' => by obtain ⟨h0, h1, -⟩ := hS'; go_simp) ?_
      refine T_take (i := 9) (v := .slice (some ⟨zb, zo, none⟩) 2 zc) rfl (by kernel_rfl) (by kernel_rfl) (by kernel_rfl) (by kernel_rfl) (fun _ _ _ h => h) hS0.out (by kernel_rfl) (fun w' hS' => by obtain ⟨h0, h1, -⟩ := hS'; go_simp) ?_
      refine T_step (i := 10) rfl (by kernel_rfl) rfl (by kernel_rfl) ?_
      intro K hK
      go_simp
      refine (CA.out _ hS0.out.2.2).mono ?_
      rintro e' wT1 ⟨⟨sv, rfl, hs⟩, hb1⟩
      obtain ⟨sb, sc, rfl, _, _⟩ := hs.form (by simp [intVals, addL, rowOf])
      have HSM := Lib.hid (show OwnV 3 _ _ _ (.slice (some ⟨sb, 0, none⟩) 2 sc) (intVals (rowOf (x.1 + z.1, x.2 + z.2))) from hs)
      rw [show (intVals (addL (rowOf x) (rowOf z))).length = 2 from rfl]
      clear hs
      have hS1 := Lib.hid (show (fun (w' : World) => w'.cell? ⟨lb, lo + jm, none⟩ = some (.slice (some ⟨xb, xo, none⟩) 2 xc) ∧ w'.cell? ⟨lb, lo + jp, none⟩ = some (.slice (some ⟨zb, zo, none⟩) 2 zc) ∧ Below wr.heap.size wr w') wT1 from ⟨(hb1.cell (p := ⟨lb, lo + jm, none⟩) (Nat.lt_of_lt_of_le hlbr hS0.out.2.2.size)).trans hS0.out.1, (hb1.cell (p := ⟨lb, lo + jp, none⟩) (Nat.lt_of_lt_of_le hlbr hS0.out.2.2.size)).trans hS0.out.2.1, hS0.out.2.2.trans (hb1.mono hS0.out.2.2.size)⟩)
      refine hK.out _ _ hS1.out ?_
      clear hK K
      refine T_last (i := 11) rfl (by kernel_rfl) (by kernel_rfl) rfl (by kernel_rfl) ?_
      go_simp
      obtain ⟨w5, hw5⟩ : ∃ w5, w5 = wT1 := ⟨_, rfl⟩
      subst hw5
      have hbw : Below wr.heap.size wr w5 := hS1.out.2.2
      have HBW := Lib.hid hbw
      have HO5 := Lib.hid (HO.out.below hbw)
      have gcy := (hbw.cell (p := ⟨lb, lo + j, none⟩) hlbr).trans hcy
      obtain ⟨_, _, _, e9, _, _, gs0, gs1⟩ := row_cells HSM.out.sl
      simp only [Value.slice.injEq, Option.some.injEq, Addr.mk.injEq, and_true] at e9
      obtain ⟨⟨rfl, rfl⟩, -, rfl⟩ := e9
      have GSL := Lib.hid (HSM.out.place (b := sb) rfl).2.2
      have NE3 := Lib.hid (show sb ≠ ob by have h1 := (HSM.out.place (b := sb) rfl).1; have h2 := (HO.out.place (b := ob) rfl).2.1; have h3 : wr.drew.heap.size = wr.heap.size := rfl; omega)
      clear hS0 hS1 hcx hcz hcy
      by_cases hy : y.1 = 0
      · have gy0 := (hbw.cell (p := ⟨yb, yo, none⟩) hly).trans hy0
        rw [hy] at gy0
        go_wp2_with fail
        refine (bit_of _ _).mono ?_
        rintro e w6 ⟨rfl, rfl⟩
        obtain ⟨d, hd⟩ : ∃ d, y.2 = d := ⟨_, rfl⟩
        obtain ⟨s, hs⟩ : ∃ s, x.2 + z.2 = s := ⟨_, rfl⟩
        have hq2 : s.tdiv d = t := by rw [← hs, FY.out.2.2.1, hd]; exact Int.mul_tdiv_cancel t (by rw [← hd]; intro h; have h2 := FY.out.2.2.2; unfold crP at h2; rw [hy, h] at h2; simp at h2)
        have hq0 : ¬ d = 0 := (by rw [← hd]; intro h; have h2 := FY.out.2.2.2; unfold crP at h2; rw [hy, h] at h2; simp at h2)
        have hq1 : (d == 0) = false := by rw [beq_eq_false_iff_ne]; exact hq0
        have hq3 : IntKind.i64.wrap t = t := IntWalk.i64_in _ (by omega)
        have gyi := (hbw.cell (p := ⟨yb, yo + 1, none⟩) hly).trans hy1
        rw [hd] at gyi
        have gsi := gs1
        rw [hs] at gsi
        have gl1 : lb < w5.heap.size := Nat.lt_of_lt_of_le hlbr hbw.size
        have gl2 : yb < w5.heap.size := Nat.lt_of_lt_of_le hly hbw.size
        have gl3 := GSL.out
        clear hy0 hy1 gs0 gs1
        go_wp2_with fail
        refine T_begin (z := fun k => 14 < k) (S := fun (w' : World) => w'.heap[lb]? = w5.heap[lb]? ∧ w'.heap[yb]? = w5.heap[yb]? ∧ w'.heap[sb]? = w5.heap[sb]?) (by kernel_rfl) ?_
        show wpAnyT _ _ _ _ _ _ 16 _ _ _
        have hS0 := Lib.hid (show (fun (w' : World) => w'.heap[lb]? = w5.heap[lb]? ∧ w'.heap[yb]? = w5.heap[yb]? ∧ w'.heap[sb]? = w5.heap[sb]?) (w5.drew) from ⟨rfl, rfl, rfl⟩)
        refine T_take (i := 0) (v := .slice (some ⟨ob, 0, none⟩) done.length oc) rfl (by kernel_rfl) (by kernel_rfl) (by kernel_rfl) (by kernel_rfl) (fun _ _ _ h => h) hS0.out (by kernel_rfl) (fun w' hS' => by have h0 := (World.cell?_of_block (w := w5) (a := ⟨lb, lo + j, none⟩) hS'.1).trans gcy; have h1 := (World.cell?_of_block (w := w5) (a := ⟨yb, yo + 1, none⟩) hS'.2.1).trans gyi; have h2 := (World.cell?_of_block (w := w5) (a := ⟨sb, 1, none⟩) hS'.2.2).trans gsi; go_simp) ?_
        refine T_take (i := 1) (v := .slice (some ⟨sb, 0, none⟩) 2 sc) rfl (by kernel_rfl) (by kernel_rfl) (by kernel_rfl) (by kernel_rfl) (fun _ _ _ h => h) hS0.out (by kernel_rfl) (fun w' hS' => by have h0 := (World.cell?_of_block (w := w5) (a := ⟨lb, lo + j, none⟩) hS'.1).trans gcy; have h1 := (World.cell?_of_block (w := w5) (a := ⟨yb, yo + 1, none⟩) hS'.2.1).trans gyi; have h2 := (World.cell?_of_block (w := w5) (a := ⟨sb, 1, none⟩) hS'.2.2).trans gsi; go_simp) ?_
        refine T_take (i := 2) (v := .int .i64 1) rfl (by kernel_rfl) (by kernel_rfl) (by kernel_rfl) (by kernel_rfl) (fun _ _ _ h => h) hS0.out (by kernel_rfl) (fun w' hS' => by have h0 := (World.cell?_of_block (w := w5) (a := ⟨lb, lo + j, none⟩) hS'.1).trans gcy; have h1 := (World.cell?_of_block (w := w5) (a := ⟨yb, yo + 1, none⟩) hS'.2.1).trans gyi; have h2 := (World.cell?_of_block (w := w5) (a := ⟨sb, 1, none⟩) hS'.2.2).trans gsi; go_simp) ?_
        refine T_take (i := 3) (v := .pointer (some ⟨sb, 1, none⟩)) rfl (by kernel_rfl) (by kernel_rfl) (by kernel_rfl) (by kernel_rfl) (fun _ _ _ h => h) hS0.out (by kernel_rfl) (fun w' hS' => by have h0 := (World.cell?_of_block (w := w5) (a := ⟨lb, lo + j, none⟩) hS'.1).trans gcy; have h1 := (World.cell?_of_block (w := w5) (a := ⟨yb, yo + 1, none⟩) hS'.2.1).trans gyi; have h2 := (World.cell?_of_block (w := w5) (a := ⟨sb, 1, none⟩) hS'.2.2).trans gsi; go_simp) ?_
        refine T_take (i := 4) (v := .int .i64 s) rfl (by kernel_rfl) (by kernel_rfl) (by kernel_rfl) (by kernel_rfl) (fun _ _ _ h => h) hS0.out (by kernel_rfl) (fun w' hS' => by have h0 := (World.cell?_of_block (w := w5) (a := ⟨lb, lo + j, none⟩) hS'.1).trans gcy; have h1 := (World.cell?_of_block (w := w5) (a := ⟨yb, yo + 1, none⟩) hS'.2.1).trans gyi; have h2 := (World.cell?_of_block (w := w5) (a := ⟨sb, 1, none⟩) hS'.2.2).trans gsi; go_simp) ?_
        refine T_take (i := 5) (v := .slice (some ⟨lb, lo, none⟩) L.length lc) rfl (by kernel_rfl) (by kernel_rfl) (by kernel_rfl) (by kernel_rfl) (fun _ _ _ h => h) hS0.out (by kernel_rfl) (fun w' hS' => by have h0 := (World.cell?_of_block (w := w5) (a := ⟨lb, lo + j, none⟩) hS'.1).trans gcy; have h1 := (World.cell?_of_block (w := w5) (a := ⟨yb, yo + 1, none⟩) hS'.2.1).trans gyi; have h2 := (World.cell?_of_block (w := w5) (a := ⟨sb, 1, none⟩) hS'.2.2).trans gsi; go_simp) ?_
        refine T_take (i := 6) (v := .int .i64 j) rfl (by kernel_rfl) (by kernel_rfl) (by kernel_rfl) (by kernel_rfl) (fun _ _ _ h => h) hS0.out (by kernel_rfl) (fun w' hS' => by have h0 := (World.cell?_of_block (w := w5) (a := ⟨lb, lo + j, none⟩) hS'.1).trans gcy; have h1 := (World.cell?_of_block (w := w5) (a := ⟨yb, yo + 1, none⟩) hS'.2.1).trans gyi; have h2 := (World.cell?_of_block (w := w5) (a := ⟨sb, 1, none⟩) hS'.2.2).trans gsi; go_simp) ?_
        refine T_take (i := 7) (v := .pointer (some ⟨lb, lo + j, none⟩)) rfl (by kernel_rfl) (by kernel_rfl) (by kernel_rfl) (by kernel_rfl) (fun _ _ _ h => h) hS0.out (by kernel_rfl) (fun w' hS' => by have h0 := (World.cell?_of_block (w := w5) (a := ⟨lb, lo + j, none⟩) hS'.1).trans gcy; have h1 := (World.cell?_of_block (w := w5) (a := ⟨yb, yo + 1, none⟩) hS'.2.1).trans gyi; have h2 := (World.cell?_of_block (w := w5) (a := ⟨sb, 1, none⟩) hS'.2.2).trans gsi; go_simp) ?_
        refine T_take (i := 8) (v := .slice (some ⟨yb, yo, none⟩) 2 yc) rfl (by kernel_rfl) (by kernel_rfl) (by kernel_rfl) (by kernel_rfl) (fun _ _ _ h => h) hS0.out (by kernel_rfl) (fun w' hS' => by have h0 := (World.cell?_of_block (w := w5) (a := ⟨lb, lo + j, none⟩) hS'.1).trans gcy; have h1 := (World.cell?_of_block (w := w5) (a := ⟨yb, yo + 1, none⟩) hS'.2.1).trans gyi; have h2 := (World.cell?_of_block (w := w5) (a := ⟨sb, 1, none⟩) hS'.2.2).trans gsi; go_simp) ?_
        refine T_take (i := 9) (v := .int .i64 1) rfl (by kernel_rfl) (by kernel_rfl) (by kernel_rfl) (by kernel_rfl) (fun _ _ _ h => h) hS0.out (by kernel_rfl) (fun w' hS' => by have h0 := (World.cell?_of_block (w := w5) (a := ⟨lb, lo + j, none⟩) hS'.1).trans gcy; have h1 := (World.cell?_of_block (w := w5) (a := ⟨yb, yo + 1, none⟩) hS'.2.1).trans gyi; have h2 := (World.cell?_of_block (w := w5) (a := ⟨sb, 1, none⟩) hS'.2.2).trans gsi; go_simp) ?_
        refine T_take (i := 10) (v := .pointer (some ⟨yb, yo + 1, none⟩)) rfl (by kernel_rfl) (by kernel_rfl) (by kernel_rfl) (by kernel_rfl) (fun _ _ _ h => h) hS0.out (by kernel_rfl) (fun w' hS' => by have h0 := (World.cell?_of_block (w := w5) (a := ⟨lb, lo + j, none⟩) hS'.1).trans gcy; have h1 := (World.cell?_of_block (w := w5) (a := ⟨yb, yo + 1, none⟩) hS'.2.1).trans gyi; have h2 := (World.cell?_of_block (w := w5) (a := ⟨sb, 1, none⟩) hS'.2.2).trans gsi; go_simp) ?_
        refine T_take (i := 11) (v := .int .i64 d) rfl (by kernel_rfl) (by kernel_rfl) (by kernel_rfl) (by kernel_rfl) (fun _ _ _ h => h) hS0.out (by kernel_rfl) (fun w' hS' => by have h0 := (World.cell?_of_block (w := w5) (a := ⟨lb, lo + j, none⟩) hS'.1).trans gcy; have h1 := (World.cell?_of_block (w := w5) (a := ⟨yb, yo + 1, none⟩) hS'.2.1).trans gyi; have h2 := (World.cell?_of_block (w := w5) (a := ⟨sb, 1, none⟩) hS'.2.2).trans gsi; go_simp) ?_
        refine T_take (i := 12) (v := .int .i64 t) rfl (by kernel_rfl) (by kernel_rfl) (by kernel_rfl) (by kernel_rfl) (fun _ _ _ h => h) hS0.out (by kernel_rfl) (fun w' hS' => by have h0 := (World.cell?_of_block (w := w5) (a := ⟨lb, lo + j, none⟩) hS'.1).trans gcy; have h1 := (World.cell?_of_block (w := w5) (a := ⟨yb, yo + 1, none⟩) hS'.2.1).trans gyi; have h2 := (World.cell?_of_block (w := w5) (a := ⟨sb, 1, none⟩) hS'.2.2).trans gsi; go_simp) ?_
        refine T_step (i := 13) rfl (by kernel_rfl) rfl (by kernel_rfl) ?_
        intro K hK
        go_simp
        have hbx := below1 w5.drew (.cells #[.int .i64 t] 3)
        have hbd : Below w5.heap.size w5 (w5.drew.alloc (.cells #[.int .i64 t] 3)) := ((Below.refl w5.heap.size w5).drew).trans hbx
        have hS1 := Lib.hid (show (fun (w' : World) => w'.heap[lb]? = w5.heap[lb]? ∧ w'.heap[yb]? = w5.heap[yb]? ∧ w'.heap[sb]? = w5.heap[sb]?) _ from ⟨hbd.block lb gl1, hbd.block yb gl2, hbd.block sb gl3⟩)
        have HO2 := Lib.hid (HO5.out.below hbd)
        have hA : wr.heap.size ≤ w5.heap.size := hbw.size
        have hB : (w5.drew.alloc (.cells #[.int .i64 t] 3)).heap.size = w5.heap.size + 1 := World.size_alloc _ _
        have hbase : w.heap.size + 1 ≤ (w5.drew.alloc (.cells #[.int .i64 t] 3)).heap.size := by rw [hB]; have h1 := SZ.out; have h2 := HWS.out; omega
        have AB := Lib.hid (And.intro hA hB)
        clear hA hB
        refine hK.out _ _ hS1.out ?_
        clear hK K
        refine T_step (i := 14) rfl (by kernel_rfl) rfl (by kernel_rfl) ?_
        intro K hK
        refine wp_app_two _ _ (by rfl) (w.heap.size + 1) _ done t (by rfl) (own_len HO2.out.owns) w5.heap.size (by rfl) (heap_alloc_new w5.drew _) hdl hbase ?_
        intro g8 c8 w8 ho8 hg8 hat8
        have hC : w5.heap.size + 1 ≤ w8.heap.size := Nat.le_trans (Nat.le_of_eq AB.out.2.symm) hg8.size
        have hle5 : w5.heap.size ≤ (w5.drew.alloc (.cells #[.int .i64 t] 3)).heap.size := Nat.le_of_lt (Nat.lt_of_lt_of_eq (Nat.lt_succ_self _) AB.out.2.symm)
        have hS2 := Lib.hid (show (fun (w' : World) => w'.heap[lb]? = w5.heap[lb]? ∧ w'.heap[yb]? = w5.heap[yb]? ∧ w'.heap[sb]? = w5.heap[sb]?) w8 from ⟨(hg8.block lb (Nat.lt_of_lt_of_le gl1 hle5) (fun e => NE1.out (Option.some.inj e))).trans (hbd.block lb gl1), (hg8.block yb (Nat.lt_of_lt_of_le gl2 hle5) (fun e => NE2.out (Option.some.inj e))).trans (hbd.block yb gl2), (hg8.block sb (Nat.lt_of_lt_of_le gl3 hle5) (fun e => NE3.out (Option.some.inj e))).trans (hbd.block sb gl3)⟩)
        have HO8 := Lib.hid (OwnV.of_owns ho8)
        refine hK.out _ _ hS2.out ?_
        clear hK K ho8
        refine T_last (i := 15) rfl (by kernel_rfl) (by kernel_rfl) rfl (by kernel_rfl) ?_
        go_simp
        have B8 := HBW.out.trans ((hbd.mono HBW.out.size))
        have OB8 := Lib.hid (show g8 < w.heap.size + 2 ∨ w2.heap.size ≤ g8 by
          rcases hat8 with e | e
          · have : ob = g8 := Option.some.inj e
            have := HOB.out; omega
          · have h1 := HWS.out; have h2 := AB.out.1; have h3 : (w5.drew.alloc (.cells #[.int .i64 t] 3)).heap.size ≤ g8 := e; rw [AB.out.2] at h3; omega)
        have MID8 := Lib.hid ((HMID.out.trans (Mid.of_below B8 HWS.out)).trans (Mid.grown hg8 (by have h1 := HWS.out; have h2 := AB.out.1; exact Nat.le_trans (Nat.le_trans h1 h2) hle5) (fun g hg => by have h1 : ob = g := Option.some.inj hg; have h2 := HOB.out; omega)))
        have WS8 := Lib.hid (show w2.heap.size ≤ w8.heap.size by have h1 := HWS.out; have h2 := AB.out.1; omega)
        have HB8 := Lib.hid ((HB.out.trans (B8.mono HB.out.size)).grown hg8 (Nat.le_trans HB.out.size B8.size) (fun q hq => by have e : ob = q := Option.some.inj hq; have h1 := (HO.out.place (b := ob) rfl).1; omega))
        clear hS0 hS1 hS2 hbx hbd B8 hbase hC hle5 hg8 hat8
        go_wp2
        have jj := JJ.out.2
        refine ⟨⟨jp, done ++ [t], g8, c8, by omega, rfl, .inr (by have := LT.out; omega), ?_, by simp, by simpa using HO8.out, OB8.out, MID8.out, WS8.out, HB8.out⟩, by have := LT.out; simp [RowKit.intOf]; omega⟩
        rw [jj, Nat.add_sub_cancel, TK.out, ← HD.out]
      · have gy0 := (hbw.cell (p := ⟨yb, yo, none⟩) hly).trans hy0
        have hyb : (y.1 == 0) = false := by rw [beq_eq_false_iff_ne]; exact hy
        go_wp2_with fail
        refine (bit_of _ _).mono ?_
        rintro e w6 ⟨rfl, rfl⟩
        obtain ⟨d, hd⟩ : ∃ d, y.1 = d := ⟨_, rfl⟩
        obtain ⟨s, hs⟩ : ∃ s, x.1 + z.1 = s := ⟨_, rfl⟩
        have hq2 : s.tdiv d = t := by rw [← hs, FY.out.2.1, hd]; exact Int.mul_tdiv_cancel t (by rw [← hd]; exact hy)
        have hq0 : ¬ d = 0 := (by rw [← hd]; exact hy)
        have hq1 : (d == 0) = false := by rw [beq_eq_false_iff_ne]; exact hq0
        have hq3 : IntKind.i64.wrap t = t := IntWalk.i64_in _ (by omega)
        have gyi := (hbw.cell (p := ⟨yb, yo, none⟩) hly).trans hy0
        rw [hd] at gyi
        have gsi := gs0
        rw [hs] at gsi
        have gl1 : lb < w5.heap.size := Nat.lt_of_lt_of_le hlbr hbw.size
        have gl2 : yb < w5.heap.size := Nat.lt_of_lt_of_le hly hbw.size
        have gl3 := GSL.out
        clear hy0 hy1 gs0 gs1
        go_wp2_with fail
        refine T_begin (z := fun k => 14 < k) (S := fun (w' : World) => w'.heap[lb]? = w5.heap[lb]? ∧ w'.heap[yb]? = w5.heap[yb]? ∧ w'.heap[sb]? = w5.heap[sb]?) (by kernel_rfl) ?_
        show wpAnyT _ _ _ _ _ _ 16 _ _ _
        have hS0 := Lib.hid (show (fun (w' : World) => w'.heap[lb]? = w5.heap[lb]? ∧ w'.heap[yb]? = w5.heap[yb]? ∧ w'.heap[sb]? = w5.heap[sb]?) (w5.drew) from ⟨rfl, rfl, rfl⟩)
        refine T_take (i := 0) (v := .slice (some ⟨ob, 0, none⟩) done.length oc) rfl (by kernel_rfl) (by kernel_rfl) (by kernel_rfl) (by kernel_rfl) (fun _ _ _ h => h) hS0.out (by kernel_rfl) (fun w' hS' => by have h0 := (World.cell?_of_block (w := w5) (a := ⟨lb, lo + j, none⟩) hS'.1).trans gcy; have h1 := (World.cell?_of_block (w := w5) (a := ⟨yb, yo, none⟩) hS'.2.1).trans gyi; have h2 := (World.cell?_of_block (w := w5) (a := ⟨sb, 0, none⟩) hS'.2.2).trans gsi; go_simp) ?_
        refine T_take (i := 1) (v := .slice (some ⟨sb, 0, none⟩) 2 sc) rfl (by kernel_rfl) (by kernel_rfl) (by kernel_rfl) (by kernel_rfl) (fun _ _ _ h => h) hS0.out (by kernel_rfl) (fun w' hS' => by have h0 := (World.cell?_of_block (w := w5) (a := ⟨lb, lo + j, none⟩) hS'.1).trans gcy; have h1 := (World.cell?_of_block (w := w5) (a := ⟨yb, yo, none⟩) hS'.2.1).trans gyi; have h2 := (World.cell?_of_block (w := w5) (a := ⟨sb, 0, none⟩) hS'.2.2).trans gsi; go_simp) ?_
        refine T_take (i := 2) (v := .int .i64 0) rfl (by kernel_rfl) (by kernel_rfl) (by kernel_rfl) (by kernel_rfl) (fun _ _ _ h => h) hS0.out (by kernel_rfl) (fun w' hS' => by have h0 := (World.cell?_of_block (w := w5) (a := ⟨lb, lo + j, none⟩) hS'.1).trans gcy; have h1 := (World.cell?_of_block (w := w5) (a := ⟨yb, yo, none⟩) hS'.2.1).trans gyi; have h2 := (World.cell?_of_block (w := w5) (a := ⟨sb, 0, none⟩) hS'.2.2).trans gsi; go_simp) ?_
        refine T_take (i := 3) (v := .pointer (some ⟨sb, 0, none⟩)) rfl (by kernel_rfl) (by kernel_rfl) (by kernel_rfl) (by kernel_rfl) (fun _ _ _ h => h) hS0.out (by kernel_rfl) (fun w' hS' => by have h0 := (World.cell?_of_block (w := w5) (a := ⟨lb, lo + j, none⟩) hS'.1).trans gcy; have h1 := (World.cell?_of_block (w := w5) (a := ⟨yb, yo, none⟩) hS'.2.1).trans gyi; have h2 := (World.cell?_of_block (w := w5) (a := ⟨sb, 0, none⟩) hS'.2.2).trans gsi; go_simp) ?_
        refine T_take (i := 4) (v := .int .i64 s) rfl (by kernel_rfl) (by kernel_rfl) (by kernel_rfl) (by kernel_rfl) (fun _ _ _ h => h) hS0.out (by kernel_rfl) (fun w' hS' => by have h0 := (World.cell?_of_block (w := w5) (a := ⟨lb, lo + j, none⟩) hS'.1).trans gcy; have h1 := (World.cell?_of_block (w := w5) (a := ⟨yb, yo, none⟩) hS'.2.1).trans gyi; have h2 := (World.cell?_of_block (w := w5) (a := ⟨sb, 0, none⟩) hS'.2.2).trans gsi; go_simp) ?_
        refine T_take (i := 5) (v := .slice (some ⟨lb, lo, none⟩) L.length lc) rfl (by kernel_rfl) (by kernel_rfl) (by kernel_rfl) (by kernel_rfl) (fun _ _ _ h => h) hS0.out (by kernel_rfl) (fun w' hS' => by have h0 := (World.cell?_of_block (w := w5) (a := ⟨lb, lo + j, none⟩) hS'.1).trans gcy; have h1 := (World.cell?_of_block (w := w5) (a := ⟨yb, yo, none⟩) hS'.2.1).trans gyi; have h2 := (World.cell?_of_block (w := w5) (a := ⟨sb, 0, none⟩) hS'.2.2).trans gsi; go_simp) ?_
        refine T_take (i := 6) (v := .int .i64 j) rfl (by kernel_rfl) (by kernel_rfl) (by kernel_rfl) (by kernel_rfl) (fun _ _ _ h => h) hS0.out (by kernel_rfl) (fun w' hS' => by have h0 := (World.cell?_of_block (w := w5) (a := ⟨lb, lo + j, none⟩) hS'.1).trans gcy; have h1 := (World.cell?_of_block (w := w5) (a := ⟨yb, yo, none⟩) hS'.2.1).trans gyi; have h2 := (World.cell?_of_block (w := w5) (a := ⟨sb, 0, none⟩) hS'.2.2).trans gsi; go_simp) ?_
        refine T_take (i := 7) (v := .pointer (some ⟨lb, lo + j, none⟩)) rfl (by kernel_rfl) (by kernel_rfl) (by kernel_rfl) (by kernel_rfl) (fun _ _ _ h => h) hS0.out (by kernel_rfl) (fun w' hS' => by have h0 := (World.cell?_of_block (w := w5) (a := ⟨lb, lo + j, none⟩) hS'.1).trans gcy; have h1 := (World.cell?_of_block (w := w5) (a := ⟨yb, yo, none⟩) hS'.2.1).trans gyi; have h2 := (World.cell?_of_block (w := w5) (a := ⟨sb, 0, none⟩) hS'.2.2).trans gsi; go_simp) ?_
        refine T_take (i := 8) (v := .slice (some ⟨yb, yo, none⟩) 2 yc) rfl (by kernel_rfl) (by kernel_rfl) (by kernel_rfl) (by kernel_rfl) (fun _ _ _ h => h) hS0.out (by kernel_rfl) (fun w' hS' => by have h0 := (World.cell?_of_block (w := w5) (a := ⟨lb, lo + j, none⟩) hS'.1).trans gcy; have h1 := (World.cell?_of_block (w := w5) (a := ⟨yb, yo, none⟩) hS'.2.1).trans gyi; have h2 := (World.cell?_of_block (w := w5) (a := ⟨sb, 0, none⟩) hS'.2.2).trans gsi; go_simp) ?_
        refine T_take (i := 9) (v := .int .i64 0) rfl (by kernel_rfl) (by kernel_rfl) (by kernel_rfl) (by kernel_rfl) (fun _ _ _ h => h) hS0.out (by kernel_rfl) (fun w' hS' => by have h0 := (World.cell?_of_block (w := w5) (a := ⟨lb, lo + j, none⟩) hS'.1).trans gcy; have h1 := (World.cell?_of_block (w := w5) (a := ⟨yb, yo, none⟩) hS'.2.1).trans gyi; have h2 := (World.cell?_of_block (w := w5) (a := ⟨sb, 0, none⟩) hS'.2.2).trans gsi; go_simp) ?_
        refine T_take (i := 10) (v := .pointer (some ⟨yb, yo, none⟩)) rfl (by kernel_rfl) (by kernel_rfl) (by kernel_rfl) (by kernel_rfl) (fun _ _ _ h => h) hS0.out (by kernel_rfl) (fun w' hS' => by have h0 := (World.cell?_of_block (w := w5) (a := ⟨lb, lo + j, none⟩) hS'.1).trans gcy; have h1 := (World.cell?_of_block (w := w5) (a := ⟨yb, yo, none⟩) hS'.2.1).trans gyi; have h2 := (World.cell?_of_block (w := w5) (a := ⟨sb, 0, none⟩) hS'.2.2).trans gsi; go_simp) ?_
        refine T_take (i := 11) (v := .int .i64 d) rfl (by kernel_rfl) (by kernel_rfl) (by kernel_rfl) (by kernel_rfl) (fun _ _ _ h => h) hS0.out (by kernel_rfl) (fun w' hS' => by have h0 := (World.cell?_of_block (w := w5) (a := ⟨lb, lo + j, none⟩) hS'.1).trans gcy; have h1 := (World.cell?_of_block (w := w5) (a := ⟨yb, yo, none⟩) hS'.2.1).trans gyi; have h2 := (World.cell?_of_block (w := w5) (a := ⟨sb, 0, none⟩) hS'.2.2).trans gsi; go_simp) ?_
        refine T_take (i := 12) (v := .int .i64 t) rfl (by kernel_rfl) (by kernel_rfl) (by kernel_rfl) (by kernel_rfl) (fun _ _ _ h => h) hS0.out (by kernel_rfl) (fun w' hS' => by have h0 := (World.cell?_of_block (w := w5) (a := ⟨lb, lo + j, none⟩) hS'.1).trans gcy; have h1 := (World.cell?_of_block (w := w5) (a := ⟨yb, yo, none⟩) hS'.2.1).trans gyi; have h2 := (World.cell?_of_block (w := w5) (a := ⟨sb, 0, none⟩) hS'.2.2).trans gsi; go_simp) ?_
        refine T_step (i := 13) rfl (by kernel_rfl) rfl (by kernel_rfl) ?_
        intro K hK
        go_simp
        have hbx := below1 w5.drew (.cells #[.int .i64 t] 3)
        have hbd : Below w5.heap.size w5 (w5.drew.alloc (.cells #[.int .i64 t] 3)) := ((Below.refl w5.heap.size w5).drew).trans hbx
        have hS1 := Lib.hid (show (fun (w' : World) => w'.heap[lb]? = w5.heap[lb]? ∧ w'.heap[yb]? = w5.heap[yb]? ∧ w'.heap[sb]? = w5.heap[sb]?) _ from ⟨hbd.block lb gl1, hbd.block yb gl2, hbd.block sb gl3⟩)
        have HO2 := Lib.hid (HO5.out.below hbd)
        have hA : wr.heap.size ≤ w5.heap.size := hbw.size
        have hB : (w5.drew.alloc (.cells #[.int .i64 t] 3)).heap.size = w5.heap.size + 1 := World.size_alloc _ _
        have hbase : w.heap.size + 1 ≤ (w5.drew.alloc (.cells #[.int .i64 t] 3)).heap.size := by rw [hB]; have h1 := SZ.out; have h2 := HWS.out; omega
        have AB := Lib.hid (And.intro hA hB)
        clear hA hB
        refine hK.out _ _ hS1.out ?_
        clear hK K
        refine T_step (i := 14) rfl (by kernel_rfl) rfl (by kernel_rfl) ?_
        intro K hK
        refine wp_app_two _ _ (by rfl) (w.heap.size + 1) _ done t (by rfl) (own_len HO2.out.owns) w5.heap.size (by rfl) (heap_alloc_new w5.drew _) hdl hbase ?_
        intro g8 c8 w8 ho8 hg8 hat8
        have hC : w5.heap.size + 1 ≤ w8.heap.size := Nat.le_trans (Nat.le_of_eq AB.out.2.symm) hg8.size
        have hle5 : w5.heap.size ≤ (w5.drew.alloc (.cells #[.int .i64 t] 3)).heap.size := Nat.le_of_lt (Nat.lt_of_lt_of_eq (Nat.lt_succ_self _) AB.out.2.symm)
        have hS2 := Lib.hid (show (fun (w' : World) => w'.heap[lb]? = w5.heap[lb]? ∧ w'.heap[yb]? = w5.heap[yb]? ∧ w'.heap[sb]? = w5.heap[sb]?) w8 from ⟨(hg8.block lb (Nat.lt_of_lt_of_le gl1 hle5) (fun e => NE1.out (Option.some.inj e))).trans (hbd.block lb gl1), (hg8.block yb (Nat.lt_of_lt_of_le gl2 hle5) (fun e => NE2.out (Option.some.inj e))).trans (hbd.block yb gl2), (hg8.block sb (Nat.lt_of_lt_of_le gl3 hle5) (fun e => NE3.out (Option.some.inj e))).trans (hbd.block sb gl3)⟩)
        have HO8 := Lib.hid (OwnV.of_owns ho8)
        refine hK.out _ _ hS2.out ?_
        clear hK K ho8
        refine T_last (i := 15) rfl (by kernel_rfl) (by kernel_rfl) rfl (by kernel_rfl) ?_
        go_simp
        have B8 := HBW.out.trans ((hbd.mono HBW.out.size))
        have OB8 := Lib.hid (show g8 < w.heap.size + 2 ∨ w2.heap.size ≤ g8 by
          rcases hat8 with e | e
          · have : ob = g8 := Option.some.inj e
            have := HOB.out; omega
          · have h1 := HWS.out; have h2 := AB.out.1; have h3 : (w5.drew.alloc (.cells #[.int .i64 t] 3)).heap.size ≤ g8 := e; rw [AB.out.2] at h3; omega)
        have MID8 := Lib.hid ((HMID.out.trans (Mid.of_below B8 HWS.out)).trans (Mid.grown hg8 (by have h1 := HWS.out; have h2 := AB.out.1; exact Nat.le_trans (Nat.le_trans h1 h2) hle5) (fun g hg => by have h1 : ob = g := Option.some.inj hg; have h2 := HOB.out; omega)))
        have WS8 := Lib.hid (show w2.heap.size ≤ w8.heap.size by have h1 := HWS.out; have h2 := AB.out.1; omega)
        have HB8 := Lib.hid ((HB.out.trans (B8.mono HB.out.size)).grown hg8 (Nat.le_trans HB.out.size B8.size) (fun q hq => by have e : ob = q := Option.some.inj hq; have h1 := (HO.out.place (b := ob) rfl).1; omega))
        clear hS0 hS1 hS2 hbx hbd B8 hbase hC hle5 hg8 hat8
        go_wp2
        have jj := JJ.out.2
        refine ⟨⟨jp, done ++ [t], g8, c8, by omega, rfl, .inr (by have := LT.out; omega), ?_, by simp, by simpa using HO8.out, OB8.out, MID8.out, WS8.out, HB8.out⟩, by have := LT.out; simp [RowKit.intOf]; omega⟩
        rw [jj, Nat.add_sub_cancel, TK.out, ← HD.out]
    · have hfin : (turnsP L).take (j - 1) = turnsP L := List.take_of_length_le (by rw [turnsP_len]; omega)
      go_wp2
      go_ret
      refine made_ints ?_ ⟨⟨_, rfl, HO.out.mono (by omega) (Nat.le_refl _)⟩, HB.out⟩
      rw [ET.out, HD.out, hfin]
end Go.Proofs.Ytjijgagdaolkcaa
/- Plain facts of the law of cones. -/
namespace Go.Proofs.Ytjijgagdaolkcaa
open Go Go.RowKit Go.Lib

theorem chain_v {v : P2} : ∀ (l : List P2), Chain v l → ∀ p ∈ l, 0 ≤ crP p v
  | [], _, p, hp => by simp at hp
  | [x], h, p, hp => by
    have h : x = v := h
    simp at hp
    subst hp; subst h
    rw [cr_self]; omega
  | x :: y :: r, h, p, hp => by
    obtain ⟨h1, h2, h3, h4, h5⟩ := h
    rcases List.mem_cons.1 hp with rfl | hp
    · omega
    · exact chain_v (y :: r) h5 p hp
theorem chain_u {U v : P2} : ∀ (l : List P2) (x y : P2), Chain v (x :: y :: l) → 0 ≤ crP U x → crP U x < crP U y → ∀ p ∈ x :: y :: l, 0 ≤ crP U p
  | [], x, y, _, h0, h1, p, hp => by
    simp at hp
    rcases hp with rfl | rfl <;> omega
  | z :: l, x, y, hc, h0, h1, p, hp => by
    obtain ⟨c1, c2, c3, c4, c5⟩ := hc
    rcases List.mem_cons.1 hp with rfl | hp
    · exact h0
    · refine chain_u l y z c5 (by omega) ?_ p hp
      obtain ⟨d1, d2, d3, -, -⟩ := c5
      have ht := turn_two c1 d1 c2 d3 d2
      obtain ⟨e1, e2⟩ := turn_sum c1 d1
      have e3 : crP U x + crP U z = crP x z * crP U y := by
        have f : ∀ t : Int, x.1 + z.1 = t * y.1 → x.2 + z.2 = t * y.2 → crP U x + crP U z = t * crP U y := by
          intro t g1 g2
          unfold crP
          rw [show U.1 * x.2 - U.2 * x.1 + (U.1 * z.2 - U.2 * z.1) = U.1 * (x.2 + z.2) - U.2 * (x.1 + z.1) by grind, g1, g2]
          grind
        exact f _ e1 e2
      have := Int.mul_nonneg (by omega : 0 ≤ crP x z - 2) (by omega : 0 ≤ crP U y)
      rw [Int.sub_mul] at this
      omega
theorem chain_last {v : P2} : ∀ (l : List P2), Chain v l → l ≠ [] → l[l.length - 1]? = some v
  | [], _, h => absurd rfl h
  | [x], h, _ => by
    have h : x = v := h
    subst h; rfl
  | x :: y :: r, h, _ => by
    have := chain_last (y :: r) h.2.2.2.2 (by simp)
    simpa using this
theorem row_isV {p : P2} (h : Cn30 p) : (isV (rowOf p) && decide ((rowOf p).length = 2)) = true := by
  have e : small (rowOf p) 1000 = true := by
    unfold Cn30 at h
    unfold small rowOf
    simp only [List.all_cons, List.all_nil, Bool.and_true, inR_mk (x := p.1) (lo := -1000) (hi := 1000) (by omega) (by omega), inR_mk (x := p.2) (lo := -1000) (hi := 1000) (by omega) (by omega)]
  rw [isV_mk (by simp [rowOf]) (by simp [rowOf]), e]; rfl
/-- What the law asks of a cone. -/
structure LawC (c : Cn) (L : List P2) : Prop where
  rows : splitR c = L.map rowOf
  turns : cturnsR c = turnsP L
  two : 2 ≤ L.length
  len : L.length ≤ 1801
  head : L[0]? = some (ptOf c.1)
  last : L[L.length - 1]? = some (ptOf c.2)
  c1 : rowOf (ptOf c.1) = c.1
  c2 : rowOf (ptOf c.2) = c.2
  small : ∀ p ∈ L, Cn30 p
  inside : ∀ p ∈ L, inconeR c (rowOf p) = true
  one : ∀ (i : Nat) (h : i + 1 < L.length), crP (L[i]'(by omega)) (L[i + 1]'h) = 1
  turn : ∀ (i : Nat) (h : i + 2 < L.length), ∃ t : Int, (turnsP L)[i]? = some t ∧ 2 ≤ t ∧ t ≤ 1800 ∧ addL (rowOf (L[i]'(by omega))) (rowOf (L[i + 2]'h)) = scaleL (rowOf (L[i + 1]'(by omega))) t
theorem chain_two {v : P2} : ∀ (L : List P2) (i : Nat) (h : i + 2 < L.length), Chain v L → 2 ≤ crP (L[i]'(by omega)) (L[i + 2]'h)
  | x :: y :: z :: r, 0, _, hc => turn_two hc.1 hc.2.2.2.2.1 hc.2.1 hc.2.2.2.2.2.2.1 hc.2.2.2.2.2.1
  | x :: y :: z :: r, i + 1, h, hc => by
    have := chain_two (y :: z :: r) i (by simp at h ⊢; omega) hc.2.2.2.2
    simpa using this
  | [], _, h, _ => by simp at h
  | [_], _, h, _ => by simp at h
  | [_, _], _, h, _ => by simp only [List.length_cons, List.length_nil] at h; omega
theorem add_scale {x z y : P2} {t : Int} (h1 : x.1 + z.1 = t * y.1) (h2 : x.2 + z.2 = t * y.2) : addL (rowOf x) (rowOf z) = scaleL (rowOf y) t := by
  show [x.1 + z.1, x.2 + z.2] = [y.1 * t, y.2 * t]
  rw [h1, h2, Int.mul_comm t, Int.mul_comm t]
theorem law_of {c : Cn} (h : coneR c = true) : ∃ L, LawC c L := by
  obtain ⟨r1, r2, hd, tw⟩ := coneR_t h
  obtain ⟨y, r, e⟩ := rays_two tw hd
  obtain ⟨ch, -⟩ := raysL_chain tw
  have s30 : ∀ p ∈ raysL (ptOf c.1) (ptOf c.2), Cn30 p := raysF_30 tw.2.1 _ _ tw
  refine ⟨raysL (ptOf c.1) (ptOf c.2), ?_⟩
  have hv := chain_v _ ch
  have hu : ∀ p ∈ raysL (ptOf c.1) (ptOf c.2), 0 ≤ crP (ptOf c.1) p := by
    rw [e] at ch ⊢
    exact chain_u r _ y ch (by rw [cr_self]; omega) (by rw [cr_self, ch.1]; omega)
  constructor
  · unfold splitR; rw [if_pos h]
  · unfold cturnsR; rw [if_pos h]
  · rw [e]; simp
  · exact raysL_len tw
  · rw [e]; rfl
  · exact chain_last _ ch (by rw [e]; simp)
  · exact (rayR_t r1).2.2.2.2
  · exact (rayR_t r2).2.2.2.2
  · exact s30
  · intro p hp
    rw [inc_e h (row_isV (s30 p hp)), pt_row, decide_eq_true (hu p hp), decide_eq_true (hv p hp)]; rfl
  · intro i hi
    exact chain_get _ i hi ch
  · intro i hi
    have t1 := chain_get _ i (by omega) ch
    have t2 := chain_get _ (i + 1) (by omega) ch
    obtain ⟨s1, s2⟩ := turn_sum t1 t2
    have b2 := chain_two _ i hi ch
    have bd := cr_bd (s30 _ (List.getElem_mem (show i < (raysL (ptOf c.1) (ptOf c.2)).length by omega))) (s30 _ (List.getElem_mem hi))
    refine ⟨_, turnsP_get _ i hi, b2, bd.2, ?_⟩
    exact add_scale s1 s2
theorem law_get {L : List P2} {RL : List (List Int)} (e : RL = L.map rowOf) {i : Nat} {p : P2} (hp : L[i]? = some p) : ∃ h : i < RL.length, RL[i] = rowOf p := by
  subst e
  have hi := lt_of_get hp
  refine ⟨by rw [List.length_map]; exact hi, ?_⟩
  rw [List.getElem_map]
  have := List.getElem?_eq_getElem hi
  rw [hp] at this
  exact congrArg rowOf (Option.some.inj this).symm
/-- No cone: nothing. -/
theorem law_no {c : Cn} (h : coneR c = false) : splitR c = [] ∧ cturnsR c = [] := by
  unfold splitR cturnsR
  rw [h]
  exact ⟨rfl, rfl⟩
theorem law_back {l : List Int} (h : (coneTR l).2 = true) : cturnsR (coneTR l).1 = l := by
  unfold coneTR at h ⊢
  split at h
  · rename_i k
    rw [if_pos k]
    exact coneT_turns k.1 k.2
  · cases h
end Go.Proofs.Ytjijgagdaolkcaa
/- Plain facts of the law of series: each point of the cone has the sum 1, every other one 0. -/
namespace Go.Proofs.Ytjijgagdaolkcaa
open Go Go.RowKit Go.Lib

def ind (p : Prop) [Decidable p] : Int := if p then 1 else 0
theorem ind_congr {p q : Prop} [Decidable p] [Decidable q] (h : p ↔ q) : ind p = ind q := by
  unfold ind
  by_cases hp : p
  · rw [if_pos hp, if_pos (h.1 hp)]
  · rw [if_neg hp, if_neg (fun hq => hp (h.2 hq))]
theorem whole_one (n : Int) : whole n 1 = decide (0 ≤ n) := by
  unfold whole
  rw [Int.tmod_one, Int.tdiv_one]
  rfl
theorem hits_unit {x y d : P2} (h : crP x y = 1) : hits2 x y d = (decide (0 ≤ crP d y) && decide (0 ≤ crP x d)) := by
  unfold hits2
  rw [h, whole_one, whole_one]
/-- The step from one ray to the next. -/
theorem step_ind {x y v d : P2} (h1 : crP x y = 1) (h2 : crP y v < crP x v) (h3 : 0 < crP y v) (hy : y ≠ (0, 0)) :
    ind (0 ≤ crP d y ∧ 0 ≤ crP x d) + ind (0 ≤ crP y d ∧ 0 ≤ crP d v) - ind (hits1 y d = true) = ind (0 ≤ crP x d ∧ 0 ≤ crP d v) := by
  obtain ⟨e1, e2⟩ := basis d h1
  obtain ⟨a, ha⟩ : ∃ a, crP d y = a := ⟨_, rfl⟩
  obtain ⟨b, hb⟩ : ∃ b, crP x d = b := ⟨_, rfl⟩
  obtain ⟨p, hp⟩ : ∃ p, crP x v = p := ⟨_, rfl⟩
  obtain ⟨q, hq⟩ : ∃ q, crP y v = q := ⟨_, rfl⟩
  rw [ha, hb] at e1 e2
  have e3 : crP y d = -a := by rw [← ha]; unfold crP; grind
  have e4 : crP d v = a * p + b * q := by
    rw [← hp, ← hq]
    have f : ∀ d1 d2 : Int, d1 = a * x.1 + b * y.1 → d2 = a * x.2 + b * y.2 → d1 * v.2 - d2 * v.1 = a * crP x v + b * crP y v := by
      intro d1 d2 g1 g2
      unfold crP
      subst g1; subst g2
      grind
    exact f _ _ e1 e2
  have e5 : hits1 y d = true ↔ a = 0 ∧ 0 ≤ b := by
    rw [hits1_iff hy]
    constructor
    · rintro ⟨n, hn, hd⟩
      have ga : a = 0 := by rw [← ha, hd]; unfold crP; grind
      have gb : b = n := by
        rw [← hb, hd]
        have : crP x (n * y.1, n * y.2) = n * crP x y := by unfold crP; grind
        rw [this, h1]; omega
      exact ⟨ga, by omega⟩
    · rintro ⟨ga, gb⟩
      subst ga
      exact ⟨b, gb, Prod.ext (by rw [e1]; simp) (by rw [e2]; simp)⟩
  rw [ha, hb, e3, e4, ind_congr e5]
  rw [hp, hq] at h2
  rw [hq] at h3
  have hpp : 0 < p := by omega
  unfold ind
  rcases Int.lt_trichotomy a 0 with h | h | h
  · have k1 : a * p < 0 := Int.mul_neg_of_neg_of_pos h hpp
    by_cases hc : 0 ≤ a * p + b * q
    · have k2 : 0 < b * q := by omega
      have k3 : 0 ≤ b := by
        by_cases hb0 : 0 ≤ b
        · exact hb0
        · have := Int.mul_neg_of_neg_of_pos (show b < 0 by omega) h3
          omega
      rw [if_neg (by omega), if_pos ⟨by omega, hc⟩, if_neg (by omega), if_pos ⟨k3, hc⟩]; rfl
    · rw [if_neg (by omega), if_neg (fun k => hc k.2), if_neg (by omega), if_neg (fun k => hc k.2)]; rfl
  · subst h
    have e6 : (0 : Int) * p + b * q = b * q := by simp
    rw [e6]
    by_cases hb0 : 0 ≤ b
    · have k2 : 0 ≤ b * q := Int.mul_nonneg hb0 (by omega)
      rw [if_pos ⟨by omega, hb0⟩, if_pos ⟨by omega, k2⟩, if_pos ⟨rfl, hb0⟩, if_pos ⟨hb0, k2⟩]; rfl
    · have k2 : b * q < 0 := Int.mul_neg_of_neg_of_pos (by omega) h3
      rw [if_neg (by omega), if_neg (by omega), if_neg (by omega), if_neg (by omega)]; rfl
  · have k1 : 0 < a * p := Int.mul_pos h hpp
    by_cases hb0 : 0 ≤ b
    · have k2 : 0 ≤ b * q := Int.mul_nonneg hb0 (by omega)
      rw [if_pos ⟨by omega, hb0⟩, if_neg (by omega), if_neg (by omega), if_pos ⟨hb0, by omega⟩]; rfl
    · rw [if_neg (by omega), if_neg (by omega), if_neg (by omega), if_neg (by omega)]; rfl

theorem gen_row {p : P2} (h : Cn30 p) (h0 : p ≠ (0, 0)) : genR (rowOf p) = true := by
  unfold genR rowOf
  unfold Cn30 at h
  rw [gcd_two]
  have hs : small [p.1, p.2] 30 = true := by
    unfold small
    simp only [List.all_cons, List.all_nil, Bool.and_true, inR_mk (x := p.1) (lo := -30) (hi := 30) (by omega) (by omega), inR_mk (x := p.2) (lo := -30) (hi := 30) (by omega) (by omega)]
  rw [hs]
  have : gcdI p.1 p.2 ≠ 0 := by
    intro k
    unfold gcdI at k
    have := Int.gcd_eq_zero_iff.1 (show Int.gcd p.1 p.2 = 0 by omega)
    exact h0 (Prod.ext this.1 this.2)
  rw [decide_eq_false this]; rfl
theorem cr_left {x y : P2} (h : crP x y = 1) : x ≠ (0, 0) := by rintro rfl; simp [crP] at h
theorem cr_right {x y : P2} (h : crP x y = 1) : y ≠ (0, 0) := by rintro rfl; simp [crP] at h
theorem pair_term {s : List Int} {x y : P2} (hs : planeR s = true) (hx : Cn30 x) (hy : Cn30 y) (h : crP x y = 1) : termR (1, s, [rowOf x, rowOf y]) = true := by
  unfold termR
  simp only [List.all_cons, List.all_nil, gen_row hx (cr_left h), gen_row hy (cr_right h), hs]
  have : detG [rowOf x, rowOf y] = 1 := h
  rw [this]; rfl
theorem one_term {s : List Int} {y : P2} (hs : planeR s = true) (hy : Cn30 y) (h : y ≠ (0, 0)) : termR (-1, s, [rowOf y]) = true := by
  unfold termR
  simp only [List.all_cons, List.all_nil, gen_row hy h, hs]; rfl
theorem pair_val {s X : List Int} {x y d : P2} (hs : planeR s = true) (hX : planeR X = true) (hd : lessP (ptOf X) (ptOf s) = d) (hx : Cn30 x) (hy : Cn30 y) (h : crP x y = 1) : termAtR (1, s, [rowOf x, rowOf y]) X = ind (0 ≤ crP d y ∧ 0 ≤ crP x d) := by
  unfold termAtR ind
  have e : hitsR [rowOf x, rowOf y] d = (decide (0 ≤ crP d y) && decide (0 ≤ crP x d)) := hits_unit h
  simp only [pair_term hs hx hy h, hX, hd, e, true_and, Bool.and_eq_true, decide_eq_true_eq]
theorem one_val {s X : List Int} {y d : P2} (hs : planeR s = true) (hX : planeR X = true) (hd : lessP (ptOf X) (ptOf s) = d) (hy : Cn30 y) (h : y ≠ (0, 0)) : termAtR (-1, s, [rowOf y]) X = - ind (hits1 y d = true) := by
  unfold termAtR ind
  have e : hitsR [rowOf y] d = hits1 y d := rfl
  simp only [one_term hs hy h, hX, hd, e, true_and]
  split <;> rfl
theorem pairs_cons (s : List Int) (a : List Int) (M : List (List Int)) (n : Nat) : pairsT s (a :: M) (n + 1) = (1, s, [a, M.getD 0 []]) :: pairsT s M n := by
  unfold pairsT
  rw [List.range_succ_eq_map, List.map_cons, List.map_map]
  rfl
theorem ones_cons (s : List Int) (a : List Int) (M : List (List Int)) (n : Nat) : onesT s (a :: M) (n + 1) = (-1, s, [M.getD 0 []]) :: onesT s M n := by
  unfold onesT
  rw [List.range_succ_eq_map, List.map_cons, List.map_map]
  rfl
theorem sumT_cons (t : Tm) (ts : List Tm) (X : List Int) : sumT (t :: ts) X = termAtR t X + sumT ts X := by simp [sumT]
theorem sumT_app (ts us : List Tm) (X : List Int) : sumT (ts ++ us) X = sumT ts X + sumT us X := by simp [sumT]
/-- The sum along the rays. -/
theorem chain_sum {s X : List Int} {v d : P2} (hs : planeR s = true) (hX : planeR X = true) (hd : lessP (ptOf X) (ptOf s) = d) (hv : Cn30 v) : ∀ (r : List P2) (x y : P2), Chain v (x :: y :: r) →
    sumT (pairsT s ((x :: y :: r).map rowOf) (r.length + 1)) X + sumT (onesT s ((x :: y :: r).map rowOf) r.length) X = ind (0 ≤ crP x d ∧ 0 ≤ crP d v)
  | [], x, y, h => by
    obtain ⟨h1, h2, h3, h4, h5⟩ := h
    have h5 : y = v := h5
    subst h5
    rw [List.map_cons, List.length_nil, pairs_cons, sumT_cons]
    have e1 : ((([y] : List P2).map rowOf).getD 0 []) = rowOf y := rfl
    rw [e1, pair_val hs hX hd h4 hv h1]
    have e2 : sumT (pairsT s (([y] : List P2).map rowOf) 0) X = 0 := rfl
    have e3 : sumT (onesT s (rowOf x :: ([y] : List P2).map rowOf) 0) X = 0 := rfl
    rw [e2, e3, Int.add_zero, Int.add_zero]
    exact ind_congr ⟨fun k => ⟨k.2, k.1⟩, fun k => ⟨k.2, k.1⟩⟩
  | z :: r, x, y, h => by
    obtain ⟨h1, h2, h3, h4, h5⟩ := h
    have ih := chain_sum hs hX hd hv r y z h5
    obtain ⟨g1, g2, g3, g4, g5⟩ := h5
    rw [List.map_cons, List.length_cons, pairs_cons, ones_cons, sumT_cons, sumT_cons]
    have e1 : (((y :: z :: r).map rowOf).getD 0 []) = rowOf y := rfl
    rw [e1, pair_val hs hX hd h4 g4 h1, one_val hs hX hd g4 (cr_right h1)]
    have := step_ind (d := d) h1 h2 (show 0 < crP y v by omega) (cr_right h1)
    omega
theorem chain_all {s : List Int} {v : P2} (hs : planeR s = true) (hv : Cn30 v) : ∀ (r : List P2) (x y : P2), Chain v (x :: y :: r) →
    (pairsT s ((x :: y :: r).map rowOf) (r.length + 1)).all termR = true ∧ (onesT s ((x :: y :: r).map rowOf) r.length).all termR = true
  | [], x, y, h => by
    obtain ⟨h1, h2, h3, h4, h5⟩ := h
    have h5 : y = v := h5
    subst h5
    rw [List.map_cons, List.length_nil, pairs_cons]
    have e1 : ((([y] : List P2).map rowOf).getD 0 []) = rowOf y := rfl
    rw [e1, List.all_cons, pair_term hs h4 hv h1]
    exact ⟨rfl, rfl⟩
  | z :: r, x, y, h => by
    obtain ⟨h1, h2, h3, h4, h5⟩ := h
    have ih := chain_all hs hv r y z h5
    obtain ⟨g1, g2, g3, g4, g5⟩ := h5
    rw [List.map_cons, List.length_cons, pairs_cons, ones_cons]
    have e1 : (((y :: z :: r).map rowOf).getD 0 []) = rowOf y := rfl
    rw [e1, List.all_cons, List.all_cons, pair_term hs h4 g4 h1, one_term hs g4 (cr_right h1)]
    exact ih
theorem count_app (ts us : List Tm) : countR (ts ++ us) = countR ts + countR us := by simp [countR]
theorem count_pairs (s : List Int) (L : List (List Int)) : ∀ n : Nat, countR (pairsT s L n) = n
  | 0 => rfl
  | n + 1 => by rw [pairs_next, count_app, count_pairs s L n]; simp [countR]
theorem count_ones (s : List Int) (L : List (List Int)) : ∀ n : Nat, countR (onesT s L n) = -n
  | 0 => rfl
  | n + 1 => by rw [ones_next, count_app, count_ones s L n]; simp [countR]; omega
theorem seriesR_t {c : Cn} {s : List Int} (h : (seriesR c s).2 = true) : coneR c = true ∧ planeR s = true ∧ 2 * (splitR c).length - 3 ≤ 60 ∧ (seriesR c s).1 = pairsT s (splitR c) ((splitR c).length - 1) ++ onesT s (splitR c) ((splitR c).length - 2) := by
  unfold seriesR at h ⊢
  split at h
  · rename_i k
    rw [if_pos k]
    exact ⟨k.1, k.2.1, k.2.2, rfl⟩
  · cases h
theorem series_list {c : Cn} {s : List Int} (h : (seriesR c s).2 = true) : ∃ (x y : P2) (r : List P2), Chain (ptOf c.2) (x :: y :: r) ∧ x = ptOf c.1 ∧ Cn30 (ptOf c.2) ∧ coneR c = true ∧ planeR s = true ∧ 2 * r.length + 1 ≤ 60 ∧ (seriesR c s).1 = pairsT s ((x :: y :: r).map rowOf) (r.length + 1) ++ onesT s ((x :: y :: r).map rowOf) r.length := by
  obtain ⟨h1, h2, h3, h4⟩ := seriesR_t h
  obtain ⟨r1, r2, hd, tw⟩ := coneR_t h1
  obtain ⟨y, r, e⟩ := rays_two tw hd
  obtain ⟨ch, -⟩ := raysL_chain tw
  have es : splitR c = (ptOf c.1 :: y :: r).map rowOf := by unfold splitR; rw [if_pos h1, e]
  rw [e] at ch
  rw [es] at h3 h4
  simp only [List.length_map, List.length_cons] at h3 h4
  exact ⟨_, y, r, ch, rfl, tw.2.1, h1, h2, by omega, h4⟩
theorem series_one {c : Cn} {s : List Int} (h : (seriesR c s).2 = true) : countR (seriesR c s).1 = 1 := by
  obtain ⟨x, y, r, _, _, _, _, _, _, e⟩ := series_list h
  rw [e, count_app, count_pairs, count_ones]
  omega
/-- What the law asks. -/
theorem series_sum {c : Cn} {s X : List Int} {d : P2} (h : (seriesR c s).2 = true) (hX : planeR X = true) (hd : lessP (ptOf X) (ptOf s) = d) (hdv : isV (rowOf d) = true) : seriesAtR (seriesR c s).1 X = if inconeR c (rowOf d) = true then 1 else 0 := by
  obtain ⟨x, y, r, ch, ex, hv, hc, hs, hr, e⟩ := series_list h
  have ha := chain_all hs hv r x y ch
  have hall : allT (seriesR c s).1 = true := by
    unfold allT
    rw [e, List.all_append, ha.1, ha.2, List.length_append, pairs_len, ones_len, decide_eq_true (by omega)]; rfl
  unfold seriesAtR
  rw [if_pos hall, e, sumT_app, chain_sum hs hX hd hv r x y ch]
  unfold ind
  have hi : inconeR c (rowOf d) = (decide (0 ≤ crP (ptOf c.1) d) && decide (0 ≤ crP d (ptOf c.2))) := by
    unfold inconeR
    rw [hc, hdv]
    rfl
  rw [hi, ← ex]
  simp only [Bool.and_eq_true, decide_eq_true_eq]
end Go.Proofs.Ytjijgagdaolkcaa
/- What the laws of cones call: equality, sums, multiples, determinants. -/
namespace Go.Proofs.Ytjijgagdaolkcaa
open Go Go.RowKit Go.Lib

set_option maxRecDepth 100000 in
set_option maxHeartbeats 800000 in
theorem same_rows (zss : List (List Int)) (v u : Value) (w : World) (hv : Rw w v zss) (hu : Rw w u zss) :
    Calls Try.prog 18 #[v, u] w fun e w' => e = .returned (.bool true) ∧ Below w.heap.size w w' := by
  have HV := Lib.hid hv
  have HU := Lib.hid hu
  obtain ⟨a, c, rfl, hm, _⟩ := hv.shape
  obtain ⟨a', c', rfl, _, _⟩ := hu.shape
  unfold maxLen at hm
  clear hv hu
  go_enter Try.func18, Try.ntmps18
  go_wp2
  go_loopw [5] (fun i wr => ∃ k : Nat, k ≤ zss.length ∧ i = .int .i64 k ∧ Below w.heap.size w wr) (fun i _ => zss.length - (RowKit.intOf i).toNat)
  case atStart => exact ⟨0, Nat.zero_le _, rfl, Below.refl _ _⟩
  case round =>
    obtain ⟨k, hk, rfl, hbr⟩ := hrel
    have HB := Lib.hid hbr
    by_cases hlt : k < zss.length
    · obtain ⟨b, off, x, rfl, hb2, hcell, hsx⟩ := HV.out.row k hlt rfl
      obtain ⟨b', off', y, rfl, hb2', hcell', hsy⟩ := HU.out.row k hlt rfl
      rw [← hbr.cell (p := ⟨b, off + k, none⟩) hb2] at hcell
      rw [← hbr.cell (p := ⟨b', off' + k, none⟩) hb2'] at hcell'
      have HX := Lib.hid hsx
      have HY := Lib.hid hsy
      have i1 : (0 : Int) ≤ (k : Int) := by omega
      have i2 : (k : Int) < (zss.length : Int) := by omega
      clear hsx hsy
      go_wp2
      go_region_held3 (fun w' => w'.cell? ⟨b, off + k, none⟩ = some x ∧ w'.cell? ⟨b', off' + k, none⟩ = some y ∧ Below w.heap.size w w')
        (first
          | exact keepF hcell hcell' hbr
          | (go_split_ands; exact keepE hb2 hb2' (by assumption) (by assumption) (by assumption) (by assumption))
          | go_keep)
        (first | (go_at_call 20; refine (same_int zss[k] x y _ (HX.out.below HB.out.drew) (HY.out.below HB.out.drew)).mono ?_; rintro e w1 ⟨rfl, hb1⟩))
      rename_i hH
      have HB1 := Lib.hid hH.2.2
      clear hH hbr
      go_wp2
      exact ⟨⟨k + 1, by omega, by go_num, HB1.out⟩, by simp [RowKit.intOf]; omega⟩
    · obtain rfl : k = zss.length := by omega
      clear hbr
      go_wp2
      go_ret
      exact ⟨rfl, HB.out⟩

set_option maxRecDepth 100000 in
set_option maxHeartbeats 400000 in
theorem same_cone (c : Cn) (v u : Value) (w : World) (hv : Cv w v c) (hu : Cv w u c) :
    Calls Try.prog 24 #[v, u] w (Quiet w (.bool true)) := by
  obtain ⟨x, x', rfl, hx, hx'⟩ := hv
  obtain ⟨y, y', rfl, hy, hy'⟩ := hu
  have HX := Lib.hid (And.intro hx hx')
  have HY := Lib.hid (And.intro hy hy')
  have B0 := Lib.hid (below2 w (.cells #[x, x'] 26) (.cells #[y, y'] 26))
  have K := Lib.hid (Bk.pair w #[x, x'] #[y, y'] 26 26)
  clear hx hy hx' hy'
  go_enter Try.func24, Try.ntmps24
  go_wp2_with fail
  refine (same_int c.1 x y _ (HX.out.1.below B0.out) (HY.out.1.below B0.out)).mono ?_
  rintro e w1 ⟨rfl, hb⟩
  have B1 := Lib.hid (B0.out.trans (hb.mono B0.out.size))
  obtain ⟨⟨_, a1⟩, _⟩ := (K.out.1.below hb).two
  obtain ⟨⟨_, b1⟩, _⟩ := (K.out.2.below hb).two
  clear hb
  go_wp2_with fail
  refine (same_int c.2 x' y' _ (HX.out.2.below B1.out) (HY.out.2.below B1.out)).mono ?_
  rintro e w2 ⟨rfl, hb⟩
  have B2 := Lib.hid (B1.out.trans (hb.mono B1.out.size))
  clear hb a1 b1
  go_wp2_with fail
  go_ret
  exact ⟨rfl, B2.out⟩

set_option maxRecDepth 100000 in
set_option maxHeartbeats 400000 in
theorem l_cross (p q : P2) (hp : Cn30 p) (hq : Cn30 q) (a b : Value) (w : World) (ha : Sl w a (intVals (rowOf p))) (hb : Sl w b (intVals (rowOf q))) :
    Calls Try.prog 29 #[a, b] w (Quiet w (.int .i64 (crP p q))) := by
  obtain ⟨b1, o1, c1, rfl, k1, l1, x1, y1⟩ := row_cells ha
  obtain ⟨b2, o2, c2, rfl, k2, l2, x2, y2⟩ := row_cells hb
  obtain ⟨m1, m2⟩ := prodT hp.wide.1 hq.wide.2
  obtain ⟨n1, n2⟩ := prodT hp.wide.2 hq.wide.1
  have E := Lib.hid (show crP p q = p.1 * q.2 - p.2 * q.1 from rfl)
  clear ha hb hp hq
  obtain ⟨p1, p2⟩ := p
  obtain ⟨q1, q2⟩ := q
  simp only at *
  have HB := Lib.hid (Below.refl w.heap.size w)
  go_enter Try.func29, Try.ntmps29
  go_wp2
  go_quiet (fail)
  go_wp2
  go_ret
  exact ⟨ret_int E.out.symm, below_drewN' HB.out _⟩

set_option maxRecDepth 100000 in
set_option maxHeartbeats 400000 in
theorem l_plus (u v : List Int) (hl : u.length = v.length) (hm : u.length ≤ 1048576) (n : Int) (hn : n ≤ 2305843009213693952) (hu : Bd u n) (hv' : Bd v n) (a b : Value) (w : World) (ha : Sl w a (intVals u)) (hb : Sl w b (intVals v)) :
    Calls Try.prog 30 #[a, b] w (Made w (addL u v)) := by
  obtain ⟨a, c, rfl, _, ha⟩ := ha.shape
  obtain ⟨b, d, rfl, _, hb⟩ := hb.shape
  rw [intVals_len] at ha hb
  rw [intVals_len, intVals_len, ← hl]
  rw [← hl] at hb
  obtain ⟨i0, hi, hz0, hz1, hz2⟩ := info_parts info_int'
  have HI := Lib.hid (And.intro hi (And.intro hz0 (And.intro hz1 hz2)))
  have HA := Lib.hid ha
  have HB0 := Lib.hid hb
  have HU := Lib.hid hu
  have HV := Lib.hid hv'
  have HL := Lib.hid hl
  clear ha hb hu hv' hl hi hz0 hz1 hz2
  go_enter Try.func30, Try.ntmps30
  go_wp2
  go_loopw [5, 6] (fun o i wr => ∃ k : Nat, k ≤ u.length ∧ i = .int .i64 k ∧ wr.ownsRow w.heap.size 3 1 o k (intVals (addL (u.take k) (v.take k))) ∧ Below w.heap.size w wr) (fun _ i _ => u.length - (RowKit.intOf i).toNat)
  case atStart => exact ⟨0, Nat.zero_le _, rfl, owns_none (Nat.le_refl _), (Below.refl _ _).alloc (Nat.le_refl _) _⟩
  case round =>
    obtain ⟨k, hk, rfl, how, hbr⟩ := hrel
    have HW := Lib.hid how
    have HB := Lib.hid hbr
    by_cases hlt : k < u.length
    · have hlt' : k < v.length := by have := HL.out; omega
      obtain ⟨b1, o1, rfl, hc1, hlt1, hx1⟩ := HA.out (by omega)
      obtain ⟨b2, o2, rfl, hc2, hlt2, hx2⟩ := HB0.out (by omega)
      have hcell1 := hx1 k _ (intVals_get u k hlt)
      have hcell2 := hx2 k _ (intVals_get v k hlt')
      rw [← hbr.cell (p := ⟨b1, o1 + k, none⟩) hlt1] at hcell1
      rw [← hbr.cell (p := ⟨b2, o2 + k, none⟩) hlt2] at hcell2
      clear hx1 hx2 hbr how
      have i1 : (0 : Int) ≤ (k : Int) := by omega
      have i2 : (k : Int) < (u.length : Int) := by omega
      have i3 : (k : Int) < (v.length : Int) := by have := HL.out; omega
      have g1 := (HU.out k hlt).1
      have g2 := (HU.out k hlt).2
      have g3 := (HV.out k hlt').1
      have g4 := (HV.out k hlt').2
      have C1 := Lib.hid (show k + 1 ≤ maxLen by unfold maxLen; omega)
      have C2 := Lib.hid (show (k + 1) * 8 ≤ 140737488355328 by omega)
      have ZT := Lib.hid (zip_take (f := fun x y => x + y) hlt hlt')
      go_wp2
      go_region_held3 (fun w' => w'.cell? ⟨b1, o1 + k, none⟩ = some (.int .i64 u[k]) ∧ w'.cell? ⟨b2, o2 + k, none⟩ = some (.int .i64 v[k]))
        (first | go_keep | (go_split_ands; exact ⟨(hbel.cell hlt1).trans (by assumption), (hbel.cell hlt2).trans (by assumption)⟩))
        ((refine step_app_int (by rfl) _ _ (by rfl) w.heap.size _ k (addL (u.take k) (v.take k)) _ (by rfl) ((HW.out.alloc _).drew) wr.heap.size (by rfl) (heap_alloc_new wr _) (by omega) (by have := HB.out.size; simp; omega) ?_; intro v' w1 hown1 hbel))
      rename_i hH
      have HO1 := Lib.hid hown1
      have HB1 := Lib.hid ((((HB.out.alloc HB.out.size _).drew).trans hbel))
      clear hown1 hbel hH
      go_wp2
      refine ⟨⟨k + 1, by omega, by go_num, ?_, HB1.out⟩, by simp [RowKit.intOf]; omega⟩
      have h := HO1.out
      rw [IntWalk.i64_in _ (by omega)] at h
      unfold addL
      rw [ZT.out]
      exact h
    · obtain rfl : k = u.length := by omega
      clear hbr how
      go_wp2
      go_ret
      refine ⟨⟨_, rfl, ?_⟩, HB.out⟩
      have h := OwnV.of_owns HW.out
      rw [List.take_length, HL.out, List.take_length] at h
      exact h

set_option maxRecDepth 100000 in
set_option maxHeartbeats 400000 in
theorem l_scaled (u : List Int) (hm : u.length ≤ 1048576) (n m z : Int) (hu : Bd u n) (hm1 : -m ≤ z) (hm2 : z ≤ m) (hnm : n * m ≤ 4611686018427387904) (a : Value) (w : World) (ha : Sl w a (intVals u)) :
    Calls Try.prog 31 #[a, .int .i64 z] w (Made w (scaleL u z)) := by
  obtain ⟨a, c, rfl, _, ha⟩ := ha.shape
  rw [intVals_len] at ha ⊢
  have HA := Lib.hid ha
  have HU := Lib.hid hu
  have HNM := Lib.hid (And.intro hm1 (And.intro hm2 hnm))
  clear ha hu hm1 hm2 hnm
  go_enter Try.func31, Try.ntmps31
  go_wp2
  go_loopw [5, 6] (fun o i wr => ∃ k : Nat, k ≤ u.length ∧ i = .int .i64 k ∧ wr.ownsRow w.heap.size 3 1 o k (intVals (scaleL (u.take k) z)) ∧ Below w.heap.size w wr) (fun _ i _ => u.length - (RowKit.intOf i).toNat)
  case atStart => exact ⟨0, Nat.zero_le _, rfl, owns_none (Nat.le_refl _), (Below.refl _ _).alloc (Nat.le_refl _) _⟩
  case round =>
    obtain ⟨k, hk, rfl, how, hbr⟩ := hrel
    have HW := Lib.hid how
    have HB := Lib.hid hbr
    by_cases hlt : k < u.length
    · obtain ⟨b1, o1, rfl, hc1, hlt1, hx1⟩ := HA.out (by omega)
      have hcell1 := hx1 k _ (intVals_get u k hlt)
      rw [← hbr.cell (p := ⟨b1, o1 + k, none⟩) hlt1] at hcell1
      clear hx1 hbr how
      have i1 : (0 : Int) ≤ (k : Int) := by omega
      have i2 : (k : Int) < (u.length : Int) := by omega
      have mb := mul_bd (HU.out k hlt).1 (HU.out k hlt).2 HNM.out.1 HNM.out.2.1
      have m1 : -4611686018427387904 ≤ u[k] * z := by have := HNM.out; omega
      have m2 : u[k] * z ≤ 4611686018427387904 := by have := HNM.out; omega
      clear mb
      have ZT := Lib.hid (map_take (f := fun x => x * z) hlt)
      have C3 := Lib.hid (show w.heap.size ≤ (wr.alloc (.cells #[.int .i64 (u[k] * z)] 3)).heap.size by rw [World.size_alloc]; exact Nat.le_succ_of_le HB.out.size)
      have hk' : k ≤ 1099511627776 := by omega
      go_wp2_with (at_builtin; refine list_app_int rfl _ _ rfl w.heap.size _ k (scaleL (u.take k) z) _ rfl (HW.out.alloc _) wr.heap.size rfl (heap_alloc_new wr _) hk' C3.out ?_; intro v' w1 hown1 hbel; have HO1 := Lib.hid hown1; have HB1 := Lib.hid ((HB.out.alloc HB.out.size _).trans hbel); clear hown1 hbel)
      refine ⟨⟨k + 1, by omega, by go_num, ?_, HB1.out⟩, by simp [RowKit.intOf]; omega⟩
      have h := HO1.out
      unfold scaleL
      rw [ZT.out]
      exact h
    · obtain rfl : k = u.length := by omega
      clear hbr how
      go_wp2
      go_ret
      refine ⟨⟨_, rfl, ?_⟩, HB.out⟩
      have h := OwnV.of_owns HW.out
      rw [List.take_length] at h
      exact h

end Go.Proofs.Ytjijgagdaolkcaa
