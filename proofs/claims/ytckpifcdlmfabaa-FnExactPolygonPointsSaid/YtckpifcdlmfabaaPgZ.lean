/- The program's sidesOf. -/
import Derived.Test.YtckpifcdlmfabaaPgX
namespace Go.Proofs.Ytckpifcdlmfabaa
open Go Go.RowKit Go.Lib

def encS (s : S2) : List Value := [.int .i64 s.1.1, .int .i64 s.1.2, .int .i64 0, .int .i64 s.2.1, .int .i64 s.2.2, .int .i64 0]
theorem encS_len (s : S2) : (encS s).length = 6 := rfl
theorem info_side : (Try.prog.info? 88).map (fun i => (i.zero, i.size, i.bytes)) = some (some (.agg #[.int .i64 0, .int .i64 0, .int .i64 0, .int .i64 0, .int .i64 0, .int .i64 0]), 6, 48) := by kernel_rfl
abbrev OwS (lo hi : Nat) (w : World) (v : Value) (l : List S2) : Prop := OwE encS 6 88 lo hi w v l
theorem OwE.at6 {lo hi : Nat} {w : World} {v : Value} {l : List S2} (h : OwS lo hi w v l) (j : Nat) (hj : j < l.length) {a : Option Addr} {n c : Nat} (hv : v = .slice a n c) :
    ∃ b : Nat, a = some ⟨b, 0, none⟩ ∧ lo ≤ b ∧ b < hi ∧ b < w.heap.size ∧ (w.cell? ⟨b, j * 6, none⟩ = some (.int .i64 l[j].1.1) ∧ w.cell? ⟨b, j * 6 + 1, none⟩ = some (.int .i64 l[j].1.2) ∧ w.cell? ⟨b, j * 6 + 2, none⟩ = some (.int .i64 0) ∧ w.cell? ⟨b, j * 6 + 3, none⟩ = some (.int .i64 l[j].2.1) ∧ w.cell? ⟨b, j * 6 + 4, none⟩ = some (.int .i64 l[j].2.2) ∧ w.cell? ⟨b, j * 6 + 5, none⟩ = some (.int .i64 0)) ∧ ∀ i, w.frozen? ⟨b, i, none⟩ = false := by
  obtain ⟨b, h1, h2, h3, h4, h5, h6, h7, h8⟩ := OwE.at encS_len h j hj (by omega) hv
  exact ⟨b, h1, h3, h4, h5, ⟨h7 0 (by omega), h7 1 (by omega), h7 2 (by omega), h7 3 (by omega), h7 4 (by omega), h7 5 (by omega)⟩, h8⟩
theorem flatS_put : ∀ (l : List S2) (j : Nat) (s : S2), ((((((l.flatMap encS).set (j * 6) (.int .i64 s.1.1)).set (j * 6 + 1) (.int .i64 s.1.2)).set (j * 6 + 2) (.int .i64 0)).set (j * 6 + 3) (.int .i64 s.2.1)).set (j * 6 + 4) (.int .i64 s.2.2)).set (j * 6 + 5) (.int .i64 0) = (l.set j s).flatMap encS
  | [], j, p => by simp
  | x :: l, 0, p => by simp [encS]
  | x :: l, j + 1, p => by
    have ih := flatS_put l j p
    rw [show (j + 1) * 6 = j * 6 + 1 + 1 + 1 + 1 + 1 + 1 from by omega]
    simp only [List.flatMap_cons, encS, List.cons_append, List.nil_append, List.set_cons_succ, show j * 6 + 1 + 1 + 1 + 1 + 1 + 1 + 1 = j * 6 + 1 + 1 + 1 + 1 + 1 + 1 + 1 from rfl, show j * 6 + 1 + 1 + 1 + 1 + 1 + 1 + 2 = j * 6 + 2 + 1 + 1 + 1 + 1 + 1 + 1 from rfl, show j * 6 + 1 + 1 + 1 + 1 + 1 + 1 + 3 = j * 6 + 3 + 1 + 1 + 1 + 1 + 1 + 1 from rfl, show j * 6 + 1 + 1 + 1 + 1 + 1 + 1 + 4 = j * 6 + 4 + 1 + 1 + 1 + 1 + 1 + 1 from rfl, show j * 6 + 1 + 1 + 1 + 1 + 1 + 1 + 5 = j * 6 + 5 + 1 + 1 + 1 + 1 + 1 + 1 from rfl, ← ih]
/-- A side is stored at place j. -/
theorem OwE.put6 {lo hi : Nat} {w : World} {b n c : Nat} {l : List S2} (h : OwS lo hi w (.slice (some ⟨b, 0, none⟩) n c) l) (j : Nat) (hj : j < l.length) (s : S2) :
    OwS lo hi ((((((w.setCell ⟨b, j * 6, none⟩ (.int .i64 s.1.1)).setCell ⟨b, j * 6 + 1, none⟩ (.int .i64 s.1.2)).setCell ⟨b, j * 6 + 2, none⟩ (.int .i64 0)).setCell ⟨b, j * 6 + 3, none⟩ (.int .i64 s.2.1)).setCell ⟨b, j * 6 + 4, none⟩ (.int .i64 s.2.2)).setCell ⟨b, j * 6 + 5, none⟩ (.int .i64 0)) (.slice (some ⟨b, 0, none⟩) n c) (l.set j s) := by
  obtain ⟨k2, k3⟩ := h
  obtain ⟨g, cap, e1⟩ := Go.Joins.ownsRow_form k2 (by omega)
  simp only [Value.slice.injEq, Option.some.injEq, Addr.mk.injEq] at e1
  obtain ⟨⟨rfl, _, _⟩, rfl, rfl⟩ := e1
  have hst := ((((((((((k2.stored (j * 6) (.int .i64 s.1.1)).1).stored (j * 6 + 1) (.int .i64 s.1.2)).1).stored (j * 6 + 2) (.int .i64 0)).1).stored (j * 6 + 3) (.int .i64 s.2.1)).1).stored (j * 6 + 4) (.int .i64 s.2.2)).1.stored (j * 6 + 5) (.int .i64 0)).1
  rw [flatS_put l j s] at hst
  exact ⟨by rw [List.length_set]; exact hst, k3⟩
theorem made_zerosS (n : Nat) : (madeCells #[.int .i64 0, .int .i64 0, .int .i64 0, .int .i64 0, .int .i64 0, .int .i64 0] (n * 6)).toList = (List.replicate n (((0, 0), (0, 0)) : S2)).flatMap encS := by
  refine List.ext_getElem? fun i => ?_
  have hl := flatE_len encS 6 encS_len (List.replicate n (((0, 0), (0, 0)) : S2))
  rw [List.length_replicate] at hl
  by_cases hi : i < n * 6
  · have e1 : (madeCells #[.int .i64 0, .int .i64 0, .int .i64 0, .int .i64 0, .int .i64 0, .int .i64 0] (n * 6)).toList[i]? = some ((#[Value.int .i64 0, .int .i64 0, .int .i64 0, .int .i64 0, .int .i64 0, .int .i64 0] : Array Value)[i % 6]!) := by
      unfold madeCells
      rw [Array.getElem?_toList, Array.getElem?_map]
      simp [hi]
    have hj : i / 6 < (List.replicate n (((0, 0), (0, 0)) : S2)).length := by simp; omega
    have g := fun c hc => flatE_get encS 6 encS_len (List.replicate n (((0, 0), (0, 0)) : S2)) (i / 6) c hj hc
    simp only [List.getElem_replicate] at g
    rw [e1]
    have h3 : i % 6 < 6 := Nat.mod_lt _ (by omega)
    rcases (by omega : i % 6 = 0 ∨ i % 6 = 1 ∨ i % 6 = 2 ∨ i % 6 = 3 ∨ i % 6 = 4 ∨ i % 6 = 5) with h | h | h | h | h | h <;> rw [h]
    · rw [show i = i / 6 * 6 + 0 by omega, g 0 (by omega)]; rfl
    · rw [show i = i / 6 * 6 + 1 by omega, g 1 (by omega)]; rfl
    · rw [show i = i / 6 * 6 + 2 by omega, g 2 (by omega)]; rfl
    · rw [show i = i / 6 * 6 + 3 by omega, g 3 (by omega)]; rfl
    · rw [show i = i / 6 * 6 + 4 by omega, g 4 (by omega)]; rfl
    · rw [show i = i / 6 * 6 + 5 by omega, g 5 (by omega)]; rfl
  · rw [List.getElem?_eq_none (by rw [Array.length_toList, size_madeCells]; omega), List.getElem?_eq_none (by rw [hl]; omega)]
theorem OwE.zeros6 {base lo hi : Nat} {w : World} {b n : Nat} (h : w.ownsRow base 88 6 (.slice (some ⟨b, 0, none⟩) n n) n (madeCells #[.int .i64 0, .int .i64 0, .int .i64 0, .int .i64 0, .int .i64 0, .int .i64 0] (n * 6)).toList) (hlo : lo ≤ base) (hhi : b < hi) : OwS lo hi w (.slice (some ⟨b, 0, none⟩) n n) (List.replicate n ((0, 0), (0, 0))) := by
  rw [made_zerosS] at h
  refine ⟨?_, fun x hx => (show b = x by simpa [Value.ownBlock] using hx) ▸ hhi⟩
  rw [List.length_replicate]
  exact Go.Joins.ownsRow_le h hlo
def fillS (ps : List P2) (k : Nat) : List S2 := (sidesP ps).take k ++ List.replicate (ps.length - k) ((0, 0), (0, 0))
theorem fillS_zero (ps : List P2) : fillS ps 0 = List.replicate ps.length ((0, 0), (0, 0)) := by simp [fillS]
theorem fillS_all (ps : List P2) : fillS ps ps.length = sidesP ps := by unfold fillS; rw [List.take_of_length_le (by rw [sidesP_len]; omega)]; simp
theorem fillS_len (ps : List P2) (k : Nat) (h : k ≤ ps.length) : (fillS ps k).length = ps.length := by simp [fillS, sidesP_len]; omega
theorem fillS_step (ps : List P2) (k : Nat) (h : k < ps.length) : (fillS ps k).set k (sideP ps k) = fillS ps (k + 1) := by
  have hl : ((sidesP ps).take k).length = k := by rw [List.length_take, sidesP_len]; omega
  unfold fillS
  rw [List.set_append_right _ _ (by omega), hl, Nat.sub_self, show ps.length - k = (ps.length - (k + 1)) + 1 by omega, List.replicate_succ, List.set_cons_zero, List.take_succ_eq_append_getElem (by rw [sidesP_len]; exact h), sidesP_get]
  simp
theorem row_splice (p : P2) : splice [Value.int .i64 0, .int .i64 0, .int .i64 0] 0 (intVals (rowOf p)) = [.int .i64 p.1, .int .i64 p.2, .int .i64 0] := rfl
/-- What sidesOf leaves. -/
def MadeS (w : World) (l : List S2) (e : Ending) (w' : World) : Prop := (∃ g c, e = .returned (.slice (some ⟨g, 0, none⟩) l.length c) ∧ OwS w.heap.size w'.heap.size w' (.slice (some ⟨g, 0, none⟩) l.length c) l) ∧ Below w.heap.size w w'
set_option maxRecDepth 100000 in
set_option maxHeartbeats 3200000 in
theorem i_sides (ps : List P2) (h12 : ps.length ≤ 12) (v : Value) (w : World) (hv : Rw w v (ps.map rowOf)) :
    Calls Try.prog 79 #[v] w (MadeS w (sidesP ps)) := by
  have HX := Lib.hid hv
  obtain ⟨va, vc, rfl, hvm, _⟩ := hv.shape
  rw [List.length_map] at HX hvm ⊢
  obtain ⟨i0, hi', hz0, hz1, hz2⟩ := info_parts info_side
  clear hv
  go_enter Try.func79, Try.ntmps79
  go_wp2_with (at_make; refine wpList_make_full _ rfl _ _ 85 rfl w.heap.size 88 i0 _ 6 Try.underlying85 hi' hz0 hz1 .i64 .i64 _ _ ps.length rfl rfl rfl rfl (by rw [hz2]; omega) (by unfold maxLen; omega) (by simp) ?_; intro w1 hown hgrow; have hbel : Below w.heap.size w w1 := (Below.refl _ _).grown hgrow (Nat.le_refl _) (fun q hq => by cases hq))
  rw [show (Value.agg #[.int .i64 0, .int .i64 0, .int .i64 0, .int .i64 0, .int .i64 0, .int .i64 0]).cells = #[Value.int .i64 0, .int .i64 0, .int .i64 0, .int .i64 0, .int .i64 0, .int .i64 0] from rfl] at hown
  have hlt1 : w.heap.size < w1.heap.size := by have := (hown.lt _ rfl).2; simpa using this
  have O1 := Lib.hid (show OwS w.heap.size w1.heap.size w1 (.slice (some ⟨w.heap.size, 0, none⟩) ps.length ps.length) (fillS ps 0) by rw [fillS_zero]; exact OwE.zeros6 hown (Nat.le_refl _) hlt1)
  have B1 := Lib.hid hbel
  have HL1 := Lib.hid hlt1
  clear hown hgrow hbel hi' hz0 hz1 hz2 hlt1
  go_loopw [11] (fun i wr => ∃ k : Nat, k ≤ ps.length ∧ i = .int .i64 k ∧ OwS w.heap.size wr.heap.size wr (.slice (some ⟨w.heap.size, 0, none⟩) ps.length ps.length) (fillS ps k) ∧ Below w.heap.size w wr ∧ w.heap.size < wr.heap.size) (fun i _ => ps.length - (RowKit.intOf i).toNat)
  case atStart => exact ⟨0, Nat.zero_le _, rfl, O1.out, B1.out, HL1.out⟩
  case round =>
    obtain ⟨k, hk, rfl, ho, hb, hwl⟩ := hrel
    have HK := Lib.hid ho
    have HB := Lib.hid hb
    have HWL := Lib.hid hwl
    clear ho hb
    by_cases hlt : k < ps.length
    · have i1 : (0 : Int) ≤ (k : Int) := by omega
      have i2 : (k : Int) < (ps.length : Int) := by omega
      obtain ⟨nx, hnx⟩ : ∃ nx, (k + 1) % ps.length = nx := ⟨_, rfl⟩
      have hxl : nx < ps.length := by rw [← hnx]; exact Nat.mod_lt _ (by omega)
      have FS := Lib.hid (fillS_step ps k hlt)
      have FL := Lib.hid (fillS_len ps k hk)
      rw [side_at hlt hnx hxl] at FS
      have j1 : IntKind.i64.wrap ((k : Int) + 1) = (k : Int) + 1 := by rw [IntWalk.i64_in _ (by omega)]
      have j2 : Int.tmod ((k : Int) + 1) (ps.length : Int) = (nx : Int) := by rw [mod_next, hnx]
      have j3 : ¬ (ps.length : Int) = 0 := by omega
      have j4 : ((ps.length : Int) == 0) = false := beq_eq_false_iff_ne.2 j3
      have j9 : ¬ ps = [] := fun e => by rw [e] at hlt; simp at hlt
      have j5 : IntKind.i64.wrap (nx : Int) = (nx : Int) := by rw [IntWalk.i64_in _ (by omega)]
      have j6 : (0 : Int) ≤ (nx : Int) := by omega
      have j7 : (nx : Int) < (ps.length : Int) := by omega
      obtain ⟨b1, o1, x, rfl, hb2, hcell, hsx⟩ := HX.out.pt k hlt
      obtain ⟨b2, o2, y, e2, _, hcell', hsy⟩ := HX.out.pt nx hxl
      simp only [Option.some.injEq, Addr.mk.injEq, and_true] at e2
      obtain ⟨rfl, rfl⟩ := e2
      rw [← HB.out.cell (p := ⟨b1, o1 + k, none⟩) hb2] at hcell
      rw [← HB.out.cell (p := ⟨b1, o1 + nx, none⟩) hb2] at hcell'
      have QX := Lib.hid (hsx.below HB.out)
      have QY := Lib.hid (hsy.below HB.out)
      obtain ⟨xa, xc, rfl, _⟩ := hsx.shape
      obtain ⟨ya, yc, rfl, _⟩ := hsy.shape
      have h1 : b1 < wr.heap.size := Nat.lt_of_lt_of_le hb2 HB.out.size
      obtain ⟨p, hp⟩ : ∃ p, ps[k] = p := ⟨_, rfl⟩
      obtain ⟨q, hq⟩ : ∃ q, ps[nx] = q := ⟨_, rfl⟩
      rw [hp, hq] at FS
      rw [hp] at QX hcell
      rw [hq] at QY hcell'
      obtain ⟨p1, p2⟩ := p
      obtain ⟨q1, q2⟩ := q
      have CY := Lib.hid hcell'
      clear hsx hsy hb2 hnx hp hq hcell'
      go_wp2_with fail
      refine T_begin (z := fun q => 13 < q) (S := fun W => W.cell? ⟨b1, o1 + nx, none⟩ = some (.slice ya (intVals (rowOf (q1, q2))).length yc)) (by kernel_rfl) ?_
      show wpAnyT _ _ _ _ _ _ 16 _ _ _
      have hS0 := Lib.hid (show (fun (W : World) => W.cell? ⟨b1, o1 + nx, none⟩ = some (.slice ya (intVals (rowOf (q1, q2))).length yc)) wr.drew from CY.out)
      refine T_take (i := 0) (v := .slice (some ⟨w.heap.size, 0, none⟩) ps.length ps.length) rfl (by kernel_rfl) (by kernel_rfl) (by kernel_rfl) (by kernel_rfl) (fun _ _ _ h => h) hS0.out (by kernel_rfl) (fun w' hS' => by (try dsimp only at hS'); go_simp) ?_
      refine T_take (i := 1) (v := .int .i64 k) rfl (by kernel_rfl) (by kernel_rfl) (by kernel_rfl) (by kernel_rfl) (fun _ _ _ h => h) hS0.out (by kernel_rfl) (fun w' hS' => by (try dsimp only at hS'); go_simp) ?_
      refine T_take (i := 2) (v := .slice xa (intVals (rowOf (p1, p2))).length xc) rfl (by kernel_rfl) (by kernel_rfl) (by kernel_rfl) (by kernel_rfl) (fun _ _ _ h => h) hS0.out (by kernel_rfl) (fun w' hS' => by (try dsimp only at hS'); go_simp) ?_
      refine T_take (i := 4) (v := .slice (some ⟨b1, o1, none⟩) ps.length vc) rfl (by kernel_rfl) (by kernel_rfl) (by kernel_rfl) (by kernel_rfl) (fun _ _ _ h => h) hS0.out (by kernel_rfl) (fun w' hS' => by (try dsimp only at hS'); go_simp) ?_
      refine T_take (i := 5) (v := .int .i64 k) rfl (by kernel_rfl) (by kernel_rfl) (by kernel_rfl) (by kernel_rfl) (fun _ _ _ h => h) hS0.out (by kernel_rfl) (fun w' hS' => by (try dsimp only at hS'); go_simp) ?_
      refine T_take (i := 6) (v := .int .i64 ((k : Int) + 1)) rfl (by kernel_rfl) (by kernel_rfl) (by kernel_rfl) (by kernel_rfl) (fun _ _ _ h => h) hS0.out (by kernel_rfl) (fun w' hS' => by (try dsimp only at hS'); go_simp) ?_
      refine T_take (i := 7) (v := .slice (some ⟨b1, o1, none⟩) ps.length vc) rfl (by kernel_rfl) (by kernel_rfl) (by kernel_rfl) (by kernel_rfl) (fun _ _ _ h => h) hS0.out (by kernel_rfl) (fun w' hS' => by (try dsimp only at hS'); go_simp) ?_
      refine T_take (i := 8) (v := .int .i64 ps.length) rfl (by kernel_rfl) (by kernel_rfl) (by kernel_rfl) (by kernel_rfl) (fun _ _ _ h => h) hS0.out (by kernel_rfl) (fun w' hS' => by (try dsimp only at hS'); go_simp) ?_
      refine T_take (i := 9) (v := .int .i64 nx) rfl (by kernel_rfl) (by kernel_rfl) (by kernel_rfl) (by kernel_rfl) (fun _ _ _ h => h) hS0.out (by kernel_rfl) (fun w' hS' => by (try dsimp only at hS'); go_simp) ?_
      refine T_take (i := 10) (v := .pointer (some ⟨b1, o1 + nx, none⟩)) rfl (by kernel_rfl) (by kernel_rfl) (by kernel_rfl) (by kernel_rfl) (fun _ _ _ h => h) hS0.out (by kernel_rfl) (fun w' hS' => by (try dsimp only at hS'); go_simp) ?_
      refine T_take (i := 11) (v := .slice ya (intVals (rowOf (q1, q2))).length yc) rfl (by kernel_rfl) (by kernel_rfl) (by kernel_rfl) (by kernel_rfl) (fun _ _ _ h => h) hS0.out (by kernel_rfl) (fun w' hS' => by (try dsimp only at hS'); go_simp) ?_
      refine T_step (i := 3) rfl (by kernel_rfl) rfl (by kernel_rfl) ?_
      intro K hK
      go_simp
      refine (i_num (rowOf (p1, p2)) p1 p2 0 rfl (by simp [rowOf]) (by simp [rowOf]) _ _ (QX.out.below (Below.refl _ _).drew)).mono ?_
      rintro e w2 ⟨rfl, hb2⟩
      have B2 := Lib.hid (show Below wr.heap.size wr w2 from (Below.refl _ _).drew.trans hb2)
      have hS2 := Lib.hid (show (fun (W : World) => W.cell? ⟨b1, o1 + nx, none⟩ = some (.slice ya (intVals (rowOf (q1, q2))).length yc)) w2 from (B2.out.cell (p := ⟨b1, o1 + nx, none⟩) h1).trans CY.out)
      clear hb2
      refine hK.out _ _ hS2.out ?_
      clear hK K
      refine T_step (i := 12) rfl (by kernel_rfl) rfl (by kernel_rfl) ?_
      intro K hK
      go_simp
      refine (i_num (rowOf (q1, q2)) q1 q2 0 rfl (by simp [rowOf]) (by simp [rowOf]) _ _ (QY.out.below B2.out)).mono ?_
      rintro e w3 ⟨rfl, hb3⟩
      have B3 := Lib.hid (B2.out.trans (hb3.mono B2.out.size))
      have hS3 := Lib.hid (show (fun (W : World) => W.cell? ⟨b1, o1 + nx, none⟩ = some (.slice ya (intVals (rowOf (q1, q2))).length yc)) w3 from (B3.out.cell (p := ⟨b1, o1 + nx, none⟩) h1).trans CY.out)
      clear hb3
      refine hK.out _ _ hS3.out ?_
      clear hK K
      refine T_take (i := 13) (v := .agg #[.int .i64 p1, .int .i64 p2, .int .i64 0, .int .i64 q1, .int .i64 q2, .int .i64 0]) rfl (by kernel_rfl) (by kernel_rfl) (by kernel_rfl) (by kernel_rfl) (fun _ _ _ h => h) hS3.out (by kernel_rfl) (fun w' hS' => by (try dsimp only at hS'); go_simp) ?_
      have K3 := Lib.hid (HK.out.below B3.out)
      obtain ⟨b4, e4, -, -, -, ⟨q0, q1', q2', q3, q4, q5⟩, qf⟩ := K3.out.at6 k (by rw [FL.out]; exact hlt) rfl
      simp only [Option.some.injEq, Addr.mk.injEq, and_true] at e4
      subst e4
      have f0 := qf (k * 6)
      have f1 := qf (k * 6 + 1)
      have f2 := qf (k * 6 + 2)
      have f3 := qf (k * 6 + 3)
      have f4 := qf (k * 6 + 4)
      have f5 := qf (k * 6 + 5)
      have O4 := Lib.hid (K3.out.put6 k (by rw [FL.out]; exact hlt) ((p1, p2), (q1, q2)))
      rw [FS.out] at O4
      have B4 := Lib.hid ((((((((HB.out.trans (B3.out.mono HB.out.size)).setCell (p := ⟨w.heap.size, k * 6, none⟩) (Nat.le_refl _) (.int .i64 p1)).setCell (p := ⟨w.heap.size, k * 6 + 1, none⟩) (Nat.le_refl _) (.int .i64 p2)).setCell (p := ⟨w.heap.size, k * 6 + 2, none⟩) (Nat.le_refl _) (.int .i64 0)).setCell (p := ⟨w.heap.size, k * 6 + 3, none⟩) (Nat.le_refl _) (.int .i64 q1)).setCell (p := ⟨w.heap.size, k * 6 + 4, none⟩) (Nat.le_refl _) (.int .i64 q2)).setCell (p := ⟨w.heap.size, k * 6 + 5, none⟩) (Nat.le_refl _) (.int .i64 0)))
      have Z4 := Lib.hid B3.out.size
      clear qf hS0 hS2
      refine T_anytake (i := 14) (v := .pointer (some ⟨w.heap.size, k * 6, none⟩)) rfl (by kernel_rfl) (by kernel_rfl) (by kernel_rfl) rfl (fun _ _ _ h => h) rfl (fun w' => by go_simp) ?_
      refine T_last (i := 15) rfl (by kernel_rfl) (by kernel_rfl) rfl rfl ?_
      go_simp
      go_wp2
      exact ⟨⟨k + 1, by omega, by go_num, O4.out.mono (Nat.le_refl _) (by have := Z4.out; simp [World.setCell]; omega), B4.out, by have := Z4.out; have := HWL.out; simp [World.setCell]; omega⟩, by simp [RowKit.intOf]; omega⟩
    · obtain rfl : k = ps.length := by omega
      have h := HK.out
      rw [fillS_all] at h
      have HE := Lib.hid h
      clear h
      have HSL := Lib.hid (sidesP_len ps)
      go_wp2
      go_ret
      refine ⟨⟨w.heap.size, ps.length, by rw [HSL.out]; rfl, ?_⟩, HB.out⟩
      rw [HSL.out]
      exact HE.out
end Go.Proofs.Ytckpifcdlmfabaa
