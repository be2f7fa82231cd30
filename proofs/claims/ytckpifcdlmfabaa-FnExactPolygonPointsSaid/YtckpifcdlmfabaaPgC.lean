/- The model's copies of rows. -/
import Derived.Test.YtckpifcdlmfabaaPgV
import Derived.Test.YtckpifcdlmfabaaPgB
namespace Go.Proofs.Ytckpifcdlmfabaa
open Go.RowKit Go.Lib

theorem OwR.place0 {T e : TypeId} {lo hi : Nat} {w : World} {v : Value} {zss : List (List Int)} (h : OwR T e lo hi w v zss) {b : Nat} (hb : v.ownBlock = some b) : lo ≤ b := by
  obtain ⟨vs, _, h2, _⟩ := h
  exact (h2.place hb).1
theorem owr_none0 {T e : TypeId} {base : Nat} {w : World} {v : Value} (h : w.ownsRow base T 1 v 0 []) : OwR T e base w.heap.size w v [] :=
  ⟨[], rfl, OwnV.of_owns h, fun i u zs hu => by simp at hu, fun i j u u' b _ hu => by simp at hu, fun i u b hu => by simp at hu⟩
set_option maxRecDepth 100000 in
set_option maxHeartbeats 1600000 in
theorem s_copy (l : List (List Int)) (v : Value) (w : World) (hv : Rw w v l) (hn : l.length ≤ 1048576) (hr : ∀ r ∈ l, r.length ≤ 1048576) :
    Calls Try.prog 68 #[v] w (MadeR w l) := by
  obtain ⟨a, c, rfl, hm, hopen⟩ := hv.shape
  unfold maxLen at hm
  have HO := Lib.hid hopen
  have HR := Lib.hid hr
  obtain ⟨i1, hi', hy0, hy1, hy2⟩ := info_parts info_int'
  have HJ := Lib.hid (And.intro hi' (And.intro hy0 (And.intro hy1 hy2)))
  clear hopen hv hr hi' hy0 hy1 hy2
  go_enter Try.func68, Try.ntmps68
  go_wp2
  go_loopw [3, 4] (fun o i wr => ∃ k : Nat, k ≤ l.length ∧ i = .int .i64 k ∧ OwR 46 3 w.heap.size wr.heap.size wr o (l.take k) ∧ Below w.heap.size w wr) (fun _ i _ => l.length - (RowKit.intOf i).toNat)
  case atStart => exact ⟨0, Nat.zero_le _, rfl, owr_none0 (owns_none (Nat.le_refl _)), below1 _ _⟩
  case round =>
    obtain ⟨k, hk, rfl, ho, hb⟩ := hrel
    rename World => wr
    have HK := Lib.hid ho
    have HB := Lib.hid hb
    obtain ⟨oa, oc, rfl, hom, _⟩ := ho.rw.shape
    have hlk : (l.take k).length = k := by rw [List.length_take]; omega
    rw [hlk] at HK ⊢
    have HLK := Lib.hid hlk
    clear ho hb hlk hom
    by_cases hlt : k < l.length
    · have i1' : (0 : Int) ≤ (k : Int) := by omega
      have i2 : (k : Int) < (l.length : Int) := by omega
      obtain ⟨b, off, u, rfl, hc, hlt2, hcell, hsu⟩ := HO.out k _ (List.getElem?_eq_getElem hlt)
      have hcell2 := (HB.out.cell (p := ⟨b, off + k, none⟩) hlt2).trans hcell
      have hsu2 := hsu.below HB.out
      have hrl := HR.out l[k] (List.getElem_mem hlt)
      obtain ⟨x, hx⟩ : ∃ x, l[k] = x := ⟨_, rfl⟩
      rw [hx] at hsu2 hrl hsu
      have HX := Lib.hid hx
      obtain ⟨ua, uc, rfl, _, _⟩ := hsu2.shape
      rw [intVals_len] at hsu2 hcell2
      have hbz := below1 wr (.cells #[] 3)
      have hcell3 := (hbz.cell (p := ⟨b, off + k, none⟩) (Nat.lt_of_lt_of_le hlt2 HB.out.size)).trans hcell2
      have HS := Lib.hid (hsu2.below hbz)
      clear hsu hsu2 hcell hcell2 hbz hx
      have hw : w.heap.size ≤ wr.heap.size := HB.out.size
      go_wp2_with (first
        | (at_builtin; refine list_appG rfl _ _ 46 rfl wr.heap.size 3 i1 _ 1 8 Try.underlying46 HJ.out.1 HJ.out.2.1 HJ.out.2.2.1 HJ.out.2.2.2 rfl (by omega) (.slice (some ⟨wr.heap.size, 0, none⟩) 0 0) 0 [] rfl (owns_none (Nat.le_refl _)) _ x.length _ (intVals x) rfl HS.out.news.1 HS.out.news.2 (by intro q hq; obtain ⟨z, _, rfl⟩ := List.mem_map.1 hq; rfl) (by omega) (by omega) (by simp) ?_; intro a8 c8 w8 ho8 hg8 hat8; have B8 := Lib.hid (show Below wr.heap.size wr w8 from (below1 wr (.cells #[] 3)).trans (show Below wr.heap.size _ w8 from (Below.refl _ _).grown hg8 (by simp) (fun q hq => by simp [Value.ownBlock] at hq; omega))); have HU8 := Lib.hid (show OwnV 3 wr.heap.size w8.heap.size w8 (.slice a8 (0 + x.length) c8) (intVals x) from OwnV.of_owns (by simpa using ho8)); clear ho8 hg8 hat8; rw [Nat.zero_add] at *)
        | (at_builtin; go_must (refine list_app_row rfl _ _ rfl w.heap.size wr.heap.size _ _ (l.take k) x rfl (HK.out.below (B8.out.trans ((below1 w8 _).mono B8.out.size))) ((HU8.out.below (below1 w8 _)).mono (Nat.le_refl _) (below1 w8 _).size) _ rfl (heap_alloc_new w8 _) (by have := HLK.out; omega) hw (Nat.le_trans B8.out.size (below1 w8 _).size) ?_; intro g9 c9 w9 ho9 hb9)))
      have HO9 := Lib.hid ho9
      have B9 := Lib.hid ((HB.out.trans (B8.out.mono hw)).trans (((below1 w8 _).mono (Nat.le_trans hw B8.out.size)).trans hb9))
      clear ho9 hb9
      go_wp2
      refine ⟨⟨k + 1, by omega, by go_num, ?_, B9.out⟩, by simp [RowKit.intOf]; omega⟩
      have h := HO9.out
      rw [List.take_succ_eq_append_getElem hlt, HX.out]
      simpa [HLK.out] using h
    · obtain rfl : k = l.length := by omega
      have h := HK.out
      rw [List.take_length] at h
      have HE := Lib.hid h
      clear h
      go_wp2
      go_ret
      exact ⟨⟨_, rfl, HE.out⟩, HB.out⟩
end Go.Proofs.Ytckpifcdlmfabaa
