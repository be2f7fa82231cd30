/- Vectors out of texts: the model's and the program's ParseVector. -/
import Derived.Test.YtoekgcafhcamjaaGreatDoorVecJ
import Derived.Test.YtoekgcafhcamjaaGreatDoorPi
import Derived.Test.YtoekgcafhcamjaaGreatDoorSplit
namespace Go.Proofs.YtoekgcafhcamjaaGreatDoor
open Go.RowKit Go.Lib

/-- The integer of at most 12 digits whose numeral the text is, and whether there is one. -/
def rdI (l : List UInt8) : Int × Bool := match atoiAll l with
  | .ok n => if l = itoa n ∧ n.natAbs < 10 ^ 12 then (n, true) else (0, false)
  | _ => (0, false)
theorem rdI_yes {l : List UInt8} {n : Int} (h : Rd 12 l n) : rdI l = (n, true) := by
  unfold rdI
  rw [rd_atoi (by omega) h]
  simp only [if_pos (show l = itoa n ∧ n.natAbs < 10 ^ 12 from h)]
theorem rdI_no {l : List UInt8} (h : ∀ n, ¬ Rd 12 l n) : rdI l = (0, false) := by
  unfold rdI
  split
  · rename_i n hn
    exact if_neg (fun hh => h n hh)
  · rfl
def Read (w : World) (r : Int × Bool) (e : Ending) (w' : World) : Prop := e = .returned (.tuple #[.int .i64 r.1, .bool r.2]) ∧ Below w.heap.size w w'
theorem read_of {l : List UInt8} {w w' : World} {e : Ending} (h : RdEnd 12 l w e w') : Read w (rdI l) e w' := by
  obtain ⟨⟨n, hn, he⟩ | ⟨hn, he⟩, hb⟩ := h
  · exact ⟨by rw [rdI_yes hn]; exact he, hb⟩
  · exact ⟨by rw [rdI_no hn]; exact he, hb⟩
theorem s_readI (s : ByteArray) (hs : s.size ≤ maxLen) (w : World) : Calls Tryz.prog 97 #[.string s] w (Read w (rdI s.data.toList)) :=
  (spi_any s hs w).mono fun _ _ h => read_of h
theorem i_readI (s : ByteArray) (hs : s.size ≤ 1048576) (w : World) (hv : Vars w) : Calls Tryz.prog 102 #[.string s] w (Read w (rdI s.data.toList)) :=
  (pi_any s hs w hv).mono fun _ _ h => read_of h
theorem rdI_bd (l : List UInt8) : -999999999999 ≤ (rdI l).1 ∧ (rdI l).1 ≤ 999999999999 := by
  unfold rdI
  split
  · split
    · rename_i h; have := h.2; constructor <;> (simp only; omega)
    · simp
  · simp

def rdS (s : ByteArray) : Int × Bool := rdI s.data.toList
def fsts (ps : List ByteArray) : List Int := ps.map fun s => (rdS s).1
def oks (ps : List ByteArray) : Bool := ps.all fun s => (rdS s).2
theorem fsts_len (ps : List ByteArray) : (fsts ps).length = ps.length := by simp [fsts]
theorem fsts_take {ps : List ByteArray} {k : Nat} (h : k < ps.length) : fsts (ps.take (k + 1)) = fsts (ps.take k) ++ [(rdS ps[k]).1] := by
  unfold fsts
  rw [List.take_succ_eq_append_getElem h, List.map_append]; rfl
theorem oks_take {ps : List ByteArray} {k : Nat} (h : k < ps.length) (h1 : oks (ps.take k) = true) (h2 : (rdS ps[k]).2 = true) : oks (ps.take (k + 1)) = true := by
  rw [List.take_succ_eq_append_getElem h]
  unfold oks at *
  rw [List.all_append, h1, List.all_cons, h2]; rfl
theorem oks_not {ps : List ByteArray} {k : Nat} (h : k < ps.length) (h2 : (rdS ps[k]).2 = false) : oks ps = false := by
  unfold oks
  rw [List.all_eq_false]
  exact ⟨ps[k], List.getElem_mem h, by simp [h2]⟩
def parsP (ps : List ByteArray) : List Int × Bool := if oks ps = true then vecR (fsts ps) else ([], false)
/-- What ParseVector answers. -/
def parsV (l : List UInt8) : List Int × Bool := parsP (parts 44 l)
theorem parts_size {c : UInt8} : ∀ (l : List UInt8), ∀ s ∈ parts c l, s.size ≤ l.length := by
  have key : ∀ l : List UInt8, ∀ x ∈ sp c l, x.length ≤ l.length := by
    intro l
    induction l with
    | nil => intro x hx; simp [sp] at hx; subst hx; simp
    | cons b r ih =>
      intro x hx
      unfold sp at hx
      split at hx
      · rcases List.mem_cons.1 hx with rfl | hx
        · simp
        · have := ih x hx; simp; omega
      · split at hx
        · rename_i h t e
          rcases List.mem_cons.1 hx with rfl | hx
          · have := ih h (by rw [e]; simp); simpa using this
          · have := ih x (by rw [e]; simp [hx]); simp; omega
        · simp at hx; subst hx; simp
  intro l s hs
  unfold parts at hs
  obtain ⟨x, hx, rfl⟩ := List.mem_map.1 hs
  have := key l x hx
  show x.toArray.size ≤ _
  simpa using this
theorem parts_some (c : UInt8) (l : List UInt8) : 1 ≤ (parts c l).length := by
  rw [parts_len]
  have := sp_ne c l
  cases h : sp c l with
  | nil => exact absurd h this
  | cons x r => simp
theorem parsV_len (l : List UInt8) : (parsV l).1.length ≤ 3 := by
  unfold parsV parsP vecR
  split
  · split
    · rename_i h; exact (isV_t h).2.1
    · simp
  · simp

set_option maxRecDepth 100000 in
set_option maxHeartbeats 800000 in
theorem s_pars (s : ByteArray) (hs : s.size ≤ 1048576) (w : World) :
    Calls Tryz.prog 65 #[.string s] w (Got w (parsV s.data.toList)) := by
  have HS := Lib.hid (ssplit s 44 hs)
  have hps := parts_size (c := 44) s.data.toList
  have hpn : (parts 44 s.data.toList).length ≤ 1048577 := by
    rw [parts_len]
    have := sp_len_le 44 s.data.toList
    rw [list_len] at this; omega
  unfold parsV
  rw [list_len] at hps
  generalize parts 44 s.data.toList = ps at HS hps hpn ⊢
  have HP := Lib.hid hps
  clear hps
  have B0 := Lib.hid (Below.refl w.heap.size w)
  go_enter Tryz.func65, Tryz.ntmps65
  go_wp2_with fail
  refine (HS.out _).mono ?_
  rintro e w1 ⟨⟨v1, rfl, ho1⟩, hb1⟩
  have B1 := Lib.hid ((B0.out.alloc (Nat.le_refl _) _).trans (hb1.mono (by simp)))
  have hown := (OwnV.of_owns ho1)
  have hsl := hown.sl
  obtain ⟨a, c, rfl, hm, _⟩ := hsl.shape
  rw [strVals_len] at hown ⊢
  have HOW := Lib.hid (hown.mono (lo' := w.heap.size + 1) (by simp) (Nat.le_refl _))
  have HE := Lib.hid (owns_below (owns_empty (e := 3) (Nat.le_refl w.heap.size)) hb1)
  have hsz1 : w.heap.size < w1.heap.size := by have := hb1.size; simp at this; omega
  clear ho1 hb1 hsl hown hm
  go_wp2_with fail
  go_loopw [4, 6] (fun o i wr => ∃ (k g cap : Nat), k ≤ ps.length ∧ i = .int .i64 k ∧ o = .slice (some ⟨g, 0, none⟩) k cap ∧ (g = w.heap.size ∨ w1.heap.size ≤ g) ∧ wr.ownsRow w.heap.size 3 1 o k (intVals (fsts (ps.take k))) ∧ oks (ps.take k) = true ∧ Below w.heap.size w wr ∧ w1.heap.size ≤ wr.heap.size ∧ Mid (w.heap.size + 1) w1.heap.size w1 wr) (fun _ i _ => ps.length - (RowKit.intOf i).toNat)
  case atStart => exact ⟨0, w.heap.size, 0, Nat.zero_le _, rfl, rfl, .inl rfl, HE.out, rfl, B1.out, Nat.le_refl _, Mid.refl _ _ _⟩
  case round =>
    obtain ⟨k, g, cap, hk, rfl, rfl, hg, how, hok, hbr, hsz, hmid⟩ := hrel
    have HW := Lib.hid how
    have HB := Lib.hid hbr
    have HM := Lib.hid hmid
    have HK := Lib.hid hok
    have HP2 := Lib.hid (HOW.out.mid hmid)
    have HG := Lib.hid hg
    clear how hbr hmid hok hg
    by_cases hlt : k < ps.length
    · obtain ⟨a', c', e', _, hopen⟩ := HP2.out.sl.shape
      rw [strVals_len] at hopen
      obtain ⟨b, off, rfl, hc, hlt2, hx⟩ := hopen (by omega)
      simp only [Value.slice.injEq] at e'
      obtain ⟨rfl, hee, rfl⟩ := e'
      clear hee
      have hcell := hx k _ (strVals_get ps k hlt)
      have hsz2 : ps[k].size ≤ s.size := HP.out _ (List.getElem_mem hlt)
      clear hx hopen
      have FT := Lib.hid (fsts_take hlt)
      have HR := Lib.hid (s_readI ps[k] (by unfold maxLen; omega))
      generalize hq : rdI ps[k].data.toList = q at HR
      have HQ := Lib.hid (show rdS ps[k] = q from hq)
      clear hq
      obtain ⟨qn, qb⟩ := q
      cases qb
      · have HF := Lib.hid (oks_not hlt (by rw [HQ.out]))
        go_wp2_with fail
        refine (HR.out _).mono ?_
        rintro e w2 ⟨rfl, hb2⟩
        have HB2 := Lib.hid (HB.out.trans (hb2.mono HB.out.size))
        clear hb2
        go_wp2_with fail
        go_ret2
        have e1 : parsP ps = ([], false) := if_neg (by rw [HF.out]; simp)
        rw [e1]
        exact ⟨⟨_, rfl, own_empty HB2.out.size⟩, HB2.out.alloc HB2.out.size _⟩
      · have HT := Lib.hid (oks_take hlt HK.out (by rw [HQ.out]))
        go_wp2_with fail
        refine (HR.out _).mono ?_
        rintro e w2 ⟨rfl, hb2⟩
        have HB2 := Lib.hid (HB.out.trans (hb2.mono HB.out.size))
        have HW2 := Lib.hid (owns_below HW.out hb2)
        have HM2 := Lib.hid (HM.out.trans (Mid.of_below hb2 hsz))
        have hsz3 : w1.heap.size ≤ w2.heap.size := Nat.le_trans hsz hb2.size
        clear hb2
        have hk' : k ≤ 1099511627776 := by omega
        have C3 := Lib.hid (show w.heap.size ≤ (w2.alloc (.cells #[.int .i64 qn] 3)).heap.size by rw [World.size_alloc]; exact Nat.le_succ_of_le HB2.out.size)
        go_wp2_with (at_builtin; refine list_app_int2 rfl _ _ rfl w.heap.size _ k (fsts (ps.take k)) _ rfl (HW2.out.alloc _) w2.heap.size rfl (heap_alloc_new w2 _) hk' C3.out ?_; intro g3 cap3 w3 hown3 hgrow3 hat3; have HO3 := Lib.hid hown3; have HG3 := Lib.hid hgrow3; have HA3 := Lib.hid hat3; clear hown3 hgrow3 hat3)
        have hgr := HG3.out
        have hne : ∀ q, (Value.slice (some ⟨g, 0, none⟩) k cap).ownBlock = some q → q = g := fun q h => by simpa [Value.ownBlock] using h.symm
        have hg := HG.out
        refine ⟨⟨k + 1, g3, cap3, by omega, by go_num, rfl, ?_, ?_, HT.out, (HB2.out.alloc HB2.out.size _).grown hgr C3.out (fun q hq => by have := hne q hq; omega), ?_, ?_⟩, by simp [RowKit.intOf]; omega⟩
        · rcases HA3.out with h | h
          · have := hne g3 h; omega
          · right; rw [h, World.size_alloc]; omega
        · rw [FT.out, HQ.out]; exact HO3.out
        · exact Nat.le_trans hsz3 (by have := hgr.size; simp at this; omega)
        · exact HM2.out.trans ((Mid.of_below ((Below.refl w2.heap.size w2).alloc (Nat.le_refl _) _) hsz3).trans (Mid.grown hgr (by simp; omega) (fun q hq => by have := hne q hq; omega)))
    · obtain rfl : k = ps.length := by omega
      have hk2 := HK.out
      have hw2 := HW.out
      rw [List.take_length] at hk2 hw2
      have HK2 := Lib.hid (show parsP ps = vecR (fsts ps) from if_pos hk2)
      have HW2 := Lib.hid (OwnV.of_owns hw2)
      clear hk2 hw2
      by_cases hv : isV (fsts ps) = true
      · have E := Lib.hid hv
        have EV := Lib.hid (show vecR (fsts ps) = (fsts ps, true) from if_pos hv)
        clear hv
        go_wp2_with fail
        refine (s_isv (fsts ps) _ _ HW2.out.sl).mono ?_
        rintro e w2 ⟨rfl, hb2⟩
        rw [E.out]
        have HB2 := Lib.hid (HB.out.trans (hb2.mono HB.out.size))
        have HW3 := Lib.hid ((HW2.out.below hb2).mono (Nat.le_refl _) hb2.size)
        clear hb2
        go_wp2_with fail
        go_ret2
        rw [HK2.out, EV.out]
        exact ⟨⟨_, rfl, HW3.out⟩, HB2.out⟩
      · have E := Lib.hid (bool_f hv)
        have EV := Lib.hid (show vecR (fsts ps) = ([], false) from if_neg hv)
        clear hv
        go_wp2_with fail
        refine (s_isv (fsts ps) _ _ HW2.out.sl).mono ?_
        rintro e w2 ⟨rfl, hb2⟩
        rw [E.out]
        have HB2 := Lib.hid (HB.out.trans (hb2.mono HB.out.size))
        clear hb2
        go_wp2_with fail
        go_ret2
        rw [HK2.out, EV.out]
        exact ⟨⟨_, rfl, own_empty HB2.out.size⟩, HB2.out.alloc HB2.out.size _⟩

/-- Three places, filled from the left. -/
def arr3 (l : List Int) : List Int := l ++ List.replicate (3 - l.length) 0
theorem arr3_len {l : List Int} (h : l.length ≤ 3) : (arr3 l).length = 3 := by unfold arr3; rw [List.length_append, List.length_replicate]; omega
theorem arr3_step {l : List Int} (q : Int) (h : l.length < 3) : (intVals (arr3 l)).set l.length (.int .i64 q) = intVals (arr3 (l ++ [q])) := by
  unfold arr3
  have e : 3 - l.length = (3 - (l ++ [q]).length) + 1 := by rw [List.length_append]; simp; omega
  rw [e, List.replicate_succ]
  simp [intVals]
theorem arr3_pad (l : List Int) (h1 : 1 ≤ l.length) (h2 : l.length ≤ 3) : ∃ x y z : Int, arr3 l = [x, y, z] ∧ [x, y, z].take l.length = l := by
  match l, h1, h2 with
  | [x], _, _ => exact ⟨x, 0, 0, rfl, rfl⟩
  | [x, y], _, _ => exact ⟨x, y, 0, rfl, rfl⟩
  | [x, y, z], _, _ => exact ⟨x, y, z, rfl, rfl⟩
theorem parsP_many {ps : List ByteArray} (h : 3 < ps.length) : parsP ps = ([], false) := by
  unfold parsP vecR
  split
  · rw [if_neg]
    rw [isV_len (by rw [fsts_len]; omega)]; simp
  · rfl
theorem parsP_not {ps : List ByteArray} (h : oks ps = false) : parsP ps = ([], false) := if_neg (by rw [h]; simp)
theorem arr_cell {w : World} {p : Nat} {xs : List Int} {T : TypeId} (h : w.heap[p]? = some (.cells (intVals xs).toArray T (0, 0))) (k : Nat) (hk : k < xs.length) : w.cell? ⟨p, k, none⟩ = some (.int .i64 xs[k]) := by
  rw [cell_of_row w p k _ _ _ h]
  simp [intVals, hk]

set_option maxRecDepth 100000 in
set_option maxHeartbeats 800000 in
theorem i_pars (s : ByteArray) (hs : s.size ≤ 1048576) (w : World) (hv : Vars w) (hx : HasMax w) :
    Calls Tryz.prog 68 #[.string s] w (Got w (parsV s.data.toList)) := by
  have HS := Lib.hid (isplit s 44 hs w hx)
  have hps := parts_size (c := 44) s.data.toList
  have hp1 := parts_some 44 s.data.toList
  unfold parsV
  rw [list_len] at hps
  generalize parts 44 s.data.toList = ps at HS hps hp1 ⊢
  have HP := Lib.hid hps
  have HV := Lib.hid hv
  clear hps hv hx
  by_cases hmany : 3 < ps.length
  · have HR := Lib.hid (parsP_many hmany)
    go_enter Tryz.func68, Tryz.ntmps68
    go_wp2_with fail
    refine HS.out.mono ?_
    rintro e w1 ⟨⟨g, rfl, ho1⟩, hb1⟩
    clear ho1
    go_wp2_with fail
    go_ret2
    rw [HR.out]
    exact ⟨⟨_, rfl, OwnV.nil⟩, hb1⟩
  · have hfew : ps.length ≤ 3 := by omega
    clear hmany
    go_enter Tryz.func68, Tryz.ntmps68
    go_wp2_with fail
    refine HS.out.mono ?_
    rintro e w1 ⟨⟨g0, rfl, ho1⟩, hb1⟩
    have B1 := Lib.hid hb1
    have HP1 := Lib.hid (Sl.of_owns ho1)
    clear ho1 hb1
    go_wp2_with fail
    go_loopw [17] (fun i wr => ∃ (k : Nat), k ≤ ps.length ∧ i = .int .i64 k ∧ wr.heap[w1.heap.size]? = some (.cells (intVals (arr3 (fsts (ps.take k)))).toArray 60 (0, 0)) ∧ oks (ps.take k) = true ∧ Below w1.heap.size w1 wr) (fun i _ => ps.length - (RowKit.intOf i).toNat)
    case atStart => exact ⟨0, Nat.zero_le _, rfl, heap_alloc_new w1 _, rfl, (Below.refl _ _).alloc (Nat.le_refl _) _⟩
    case round =>
      obtain ⟨k, hk, rfl, harr, hok, hbr⟩ := hrel
      have HA := Lib.hid harr
      have HB := Lib.hid hbr
      have HK := Lib.hid hok
      have HB0 := Lib.hid (B1.out.trans (hbr.mono B1.out.size))
      clear harr hbr hok
      by_cases hlt : k < ps.length
      · obtain ⟨a', c', e', _, hopen⟩ := (HP1.out.below HB.out).shape
        rw [strVals_len] at hopen
        obtain ⟨b, off, rfl, hc, hlt2, hx⟩ := hopen (by omega)
        simp only [Value.slice.injEq, Option.some.injEq, Addr.mk.injEq] at e'
        obtain ⟨⟨rfl, rfl, _⟩, hee, rfl⟩ := e'
        clear hee
        have hcell := hx k _ (strVals_get ps k hlt)
        rw [Nat.zero_add] at hcell
        have hsz2 : ps[k].size ≤ s.size := HP.out _ (List.getElem_mem hlt)
        clear hx hopen
        have FT := Lib.hid (fsts_take hlt)
        have HR := Lib.hid (i_readI ps[k] (by omega))
        generalize hq : rdI ps[k].data.toList = q at HR
        have HQ := Lib.hid (show rdS ps[k] = q from hq)
        clear hq
        obtain ⟨qn, qb⟩ := q
        cases qb
        · have HF := Lib.hid (oks_not hlt (by rw [HQ.out]))
          go_wp2_with fail
          refine (HR.out _ (HV.out.below HB0.out)).mono ?_
          rintro e w2 ⟨rfl, hb2⟩
          have HB2 := Lib.hid (HB0.out.trans (hb2.mono HB0.out.size))
          clear hb2
          go_wp2_with fail
          go_ret2
          rw [parsP_not HF.out]
          exact ⟨⟨_, rfl, OwnV.nil⟩, HB2.out⟩
        · have HT := Lib.hid (oks_take hlt HK.out (by rw [HQ.out]))
          have hl1 : (fsts (ps.take k)).length = k := by rw [fsts_len, List.length_take]; omega
          have hl3 : (arr3 (fsts (ps.take k))).length = 3 := arr3_len (by omega)
          have ST := Lib.hid (arr3_step (l := fsts (ps.take k)) qn (by omega))
          have HL1 := Lib.hid hl1
          have HL3 := Lib.hid hl3
          clear hl1 hl3
          have k3 : k < 3 := by omega
          have i1 : (0 : Int) ≤ (k : Int) := by omega
          have i2 : (k : Int) < 3 := by omega
          have hplt := lt_of_heap HA.out
          go_wp2_with fail
          refine (HR.out _ (HV.out.below HB0.out)).mono ?_
          rintro e w2 ⟨rfl, hb2⟩
          have ha2 : w2.heap[w1.heap.size]? = some (.cells (intVals (arr3 (fsts (ps.take k)))).toArray 60 (0, 0)) := by rw [hb2.block _ hplt]; exact HA.out
          obtain ⟨old, hmine⟩ : ∃ old : Int, w2.cell? ⟨w1.heap.size, k, none⟩ = some (.int .i64 old) := ⟨_, arr_cell ha2 k (by rw [HL3.out]; omega)⟩
          have hfree : w2.frozen? ⟨w1.heap.size, k, none⟩ = false := frozen_of_row _ _ k _ _ ha2
          have HA2 := Lib.hid (heap_setCell_same w2 w1.heap.size k _ _ (.int .i64 qn) ha2)
          have HB2 := Lib.hid (HB.out.trans (hb2.mono HB.out.size))
          clear ha2 hb2
          go_wp2
          refine ⟨⟨k + 1, by omega, by go_num, ?_, HT.out, HB2.out.setCell (Nat.le_refl _) _⟩, by simp [RowKit.intOf]; omega⟩
          rw [HA2.out, FT.out, HQ.out, ← ST.out, HL1.out]
          simp
      · obtain rfl : k = ps.length := by omega
        have hk2 := HK.out
        have ha2 := HA.out
        rw [List.take_length] at hk2 ha2
        obtain ⟨x, y, z, p1, p2⟩ := arr3_pad (fsts ps) (by rw [fsts_len]; exact hp1) (by rw [fsts_len]; exact hfew)
        rw [p1] at ha2
        rw [fsts_len] at p2
        have ER := Lib.hid (show parsP ps = vecR ([x, y, z].take ps.length) by rw [p2]; exact if_pos hk2)
        have k0 : wr.cell? ⟨w1.heap.size, 0, none⟩ = some (.int .i64 x) := arr_cell ha2 0 (by simp)
        have k1 : wr.cell? ⟨w1.heap.size, 1, none⟩ = some (.int .i64 y) := arr_cell ha2 1 (by simp)
        have k2 : wr.cell? ⟨w1.heap.size, 2, none⟩ = some (.int .i64 z) := arr_cell ha2 2 (by simp)
        clear hk2 ha2 p1 p2
        go_wp2_with fail
        refine (i_vecof x y z ps.length hp1 hfew _).mono ?_
        rintro e w2 ⟨⟨r, rfl, ho⟩, hb2⟩
        have HO := Lib.hid (ho.mono (lo' := w.heap.size) HB0.out.size (Nat.le_refl _))
        have HB2 := Lib.hid (HB0.out.trans (hb2.mono HB0.out.size))
        clear ho hb2
        go_wp2_with fail
        go_ret2
        rw [ER.out]
        exact ⟨⟨_, rfl, HO.out⟩, HB2.out⟩
end Go.Proofs.YtoekgcafhcamjaaGreatDoor
