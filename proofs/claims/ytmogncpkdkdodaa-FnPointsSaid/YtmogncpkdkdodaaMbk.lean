/- The program's sliceAt: a half with one number less. -/
import Derived.Test.YtmogncpkdkdodaaMbj
import Derived.Test.YtmogncpkdkdodaaMab
import Derived.Test.YtmogncpkdkdodaaOrd
import Derived.Laws.IdiomCopy
import Derived.Test.YtmogncpkdkdodaaMbi
namespace Go.Proofs.Ytmogncpkdkdodaa
open Go Go.RowKit Go.Lib

/-- Three numbers with number k left out. -/
def cut3 (k : Nat) (x y z : Int) : Int × Int × Int := match k with
  | 0 => (y, z, 0)
  | 1 => (x, z, 0)
  | _ => (x, y, 0)
theorem cut3_fx (k : Nat) (h : List Int) (h1 : 1 ≤ h.length) (h3 : h.length ≤ 3) (hk : k < h.length) :
    cut3 k (h.getD 0 0) (h.getD 1 0) (h.getD 2 0) = ((cutN k h).getD 0 0, (cutN k h).getD 1 0, (cutN k h).getD 2 0) := by
  match h, h1, h3, hk with
  | [a], _, _, hk => obtain rfl : k = 0 := by simp at hk; omega
                     rfl
  | [a, b], _, _, hk =>
    rcases (by simp at hk; omega : k = 0 ∨ k = 1) with rfl | rfl <;> rfl
  | [a, b, c], _, _, hk =>
    rcases (by simp at hk; omega : k = 0 ∨ k = 1 ∨ k = 2) with rfl | rfl | rfl <;> rfl
/-- copy where something goes over, at an operation. -/
theorem wp_copy_cells {P : Program} {o : Oper} {a : Act} {w : World} {K : Act → World → Prop} {Q : Exit → Act → World → Prop} (d s : Operand) (dT sT : TypeId)
    (ho : o.op = .call { callee := .builtin .copy, args := #[d, s], argTypes := #[dT, sT] }) (elem : TypeId) (hu : P.underlying dT = some (.slice elem)) (hsz : (P.info? elem).map (·.size) = some 1)
    (b off dLen dCap : Nat) (ad : Addr) (sLen sCap : Nat) (hd : a.eval d = .slice (some ⟨b, off, none⟩) dLen dCap) (hs : a.eval s = .slice (some ad) sLen sCap)
    (cs : List Value) (hn : cs.length = Nat.min sLen dLen) (hsrc : ∀ j v, cs[j]? = some v → w.cell? (ad.add j) = some v) (hc : ∀ j, j < cs.length → (w.cell? ⟨b, off + j, none⟩).isSome = true) (hf : ∀ j, j < cs.length → w.frozen? ⟨b, off + j, none⟩ = false) (h1 : ∀ v ∈ cs, v.oneCell' = true)
    (h : K (a.put o.dst (goInt cs.length)) (w.setCells b off cs)) : o.wp P a w K Q := by
  have hrun := run_copy_cells (P := P) w dT sT o.type elem b off dLen dCap ad sLen sCap cs hu hsz hn hsrc hc hf h1
  unfold Oper.wp
  simp [execOp, ho, resolve, invoke, builtin, hd, hs, hrun, Result.andThen]
  exact h
theorem wp_copy_none {P : Program} {o : Oper} {a : Act} {w : World} {K : Act → World → Prop} {Q : Exit → Act → World → Prop} (d s : Operand) (dT sT : TypeId)
    (ho : o.op = .call { callee := .builtin .copy, args := #[d, s], argTypes := #[dT, sT] }) (elem : TypeId) (hu : P.underlying dT = some (.slice elem)) (hsz : (P.info? elem).map (·.size) = some 1)
    (dp sp : Option Addr) (dLen dCap sLen sCap : Nat) (hd : a.eval d = .slice dp dLen dCap) (hs : a.eval s = .slice sp sLen sCap) (hn : Nat.min sLen dLen = 0)
    (h : K (a.put o.dst (goInt 0)) w) : o.wp P a w K Q := by
  have hrun := run_copy_none (P := P) w dT sT o.type elem dp sp dLen dCap sLen sCap hu hsz hn
  unfold Oper.wp
  simp [execOp, ho, resolve, invoke, builtin, hd, hs, hrun, Result.andThen]
  exact h

theorem int_sz1 : ((Try.prog).info? 3).map (·.size) = some 1 := by
  obtain ⟨i0, hi, _, hz0, _⟩ := info_parts info_int'
  rw [hi]; exact congrArg some hz0
theorem src2 {w : World} {a : Addr} {y z : Value} (h1 : w.cell? (a.add 0) = some y) (h2 : w.cell? (a.add 1) = some z) : ∀ (j : Nat) v, [y, z][j]? = some v → w.cell? (a.add j) = some v
  | 0, _, h => by cases h; exact h1
  | 1, _, h => by cases h; exact h2
theorem lt2 {p : Nat → Prop} {y z : Value} (h0 : p 0) (h1 : p 1) : ∀ j, j < [y, z].length → p j
  | 0, _ => h0
  | 1, _ => h1
  | j + 2, h => absurd h (by simp)
theorem src1 {w : World} {a : Addr} {y : Value} (h1 : w.cell? (a.add 0) = some y) : ∀ (j : Nat) v, [y][j]? = some v → w.cell? (a.add j) = some v
  | 0, _, h => by cases h; exact h1
theorem lt1 {p : Nat → Prop} {y : Value} (h0 : p 0) : ∀ j, j < [y].length → p j
  | 0, _ => h0
  | j + 1, h => absurd h (by simp)
/-- copy of n numbers inside one block, at a step of a region. -/
theorem step_copy_cells {ops : Array Oper} {o : Oper} {a : Act} {w : World} {K : Act → World → Prop} {Q : Exit → Act → World → Prop} {E : Prop} (hgd : o.guard = none) (d s : Operand)
    (ho : o.op = .call { callee := .builtin .copy, args := #[d, s], argTypes := #[30, 30] })
    (b off dLen dCap : Nat) (ad : Addr) (sLen sCap : Nat) (hd : a.eval d = .slice (some ⟨b, off, none⟩) dLen dCap) (hs : a.eval s = .slice (some ad) sLen sCap)
    (cs : List Value) (hn : cs.length = Nat.min sLen dLen) (hsrc : ∀ j v, cs[j]? = some v → w.cell? (ad.add j) = some v) (hc : ∀ j, j < cs.length → (w.cell? ⟨b, off + j, none⟩).isSome = true) (hf : ∀ j, j < cs.length → w.frozen? ⟨b, off + j, none⟩ = false) (h1 : ∀ v ∈ cs, v.oneCell' = true)
    (h : K (a.put o.dst (goInt cs.length)) (w.setCells b off cs)) :
    if Region.wanted o (yielded ops a.tmps) = true then Oper.wp Try.prog o a w K Q else E := by
  have hw : Region.wanted o (yielded ops a.tmps) = true := by simp [Region.wanted, hgd]
  rw [if_pos hw]
  exact wp_copy_cells d s _ _ ho 3 Try.underlying30 int_sz1 b off dLen dCap ad sLen sCap hd hs cs hn hsrc hc hf h1 h
theorem step_copy_none {ops : Array Oper} {o : Oper} {a : Act} {w : World} {K : Act → World → Prop} {Q : Exit → Act → World → Prop} {E : Prop} (hgd : o.guard = none) (d s : Operand)
    (ho : o.op = .call { callee := .builtin .copy, args := #[d, s], argTypes := #[30, 30] })
    (dp sp : Option Addr) (dLen dCap sLen sCap : Nat) (hd : a.eval d = .slice dp dLen dCap) (hs : a.eval s = .slice sp sLen sCap) (hn : Nat.min sLen dLen = 0)
    (h : K (a.put o.dst (goInt 0)) w) :
    if Region.wanted o (yielded ops a.tmps) = true then Oper.wp Try.prog o a w K Q else E := by
  have hw : Region.wanted o (yielded ops a.tmps) = true := by simp [Region.wanted, hgd]
  rw [if_pos hw]
  exact wp_copy_none d s _ _ ho 3 Try.underlying30 int_sz1 dp sp dLen dCap sLen sCap hd hs hn h
/-- What sliceAt leaves. -/
def SlAt (w : World) (k : Nat) (x y z b : Int) (e : Ending) (w' : World) : Prop :=
  e = .returned (.agg #[.int .i64 (cut3 k x y z).1, .int .i64 (cut3 k x y z).2.1, .int .i64 (cut3 k x y z).2.2, .int .i64 b]) ∧ Below w.heap.size w w'

set_option maxRecDepth 100000 in
set_option maxHeartbeats 1600000 in
theorem i_sliceat0 (x y z b n : Int) (hx : -1000 ≤ x ∧ x ≤ 1000) (hb : -1000 ≤ b ∧ b ≤ 1000) (hn : -1000 ≤ n ∧ n ≤ 1000) (w : World) :
    Calls Try.prog 64 #[.agg #[.int .i64 x, .int .i64 y, .int .i64 z, .int .i64 b], .int .i64 0, .int .i64 n] w (SlAt w 0 x y z (b - n * x)) := by
  obtain ⟨p1, p2⟩ := prod1000 hn hx
  obtain ⟨b1, b2⟩ := hb
  clear hn hx
  go_enter Try.func64, Try.ntmps64
  go_wp2
  go_region
  go_wp2
  have K := Lib.hid (Bk.pair w #[.int .i64 x, .int .i64 y, .int .i64 z, .int .i64 (b - n * x)] #[.int .i64 0, .int .i64 0, .int .i64 0, .int .i64 0] 91 91)
  obtain ⟨l0, l1, l2, l3⟩ := K.out.1.c4
  have f0 := K.out.1.free 0
  have f1 := K.out.1.free 1
  have hw1 : IntKind.i64.wrap 1 = 1 := rfl
  have hw2 : IntKind.i64.wrap 2 = 2 := rfl
  have hw3 : IntKind.i64.wrap 3 = 3 := rfl
  have hR := run_copy_cells (P := Try.prog) (((w.alloc (.cells #[.int .i64 x, .int .i64 y, .int .i64 z, .int .i64 (b - n * x)] 91)).alloc (.cells #[.int .i64 0, .int .i64 0, .int .i64 0, .int .i64 0] 91)).drew.drew) 30 30 3 3 w.heap.size 0 3 3 ⟨w.heap.size, 1, none⟩ 2 2 [.int .i64 y, .int .i64 z] Try.underlying30 int_sz1 rfl (src2 l1 l2) (lt2 (Option.isSome_iff_exists.2 ⟨_, l0⟩) (Option.isSome_iff_exists.2 ⟨_, l1⟩)) (lt2 f0 f1) (by simp [Value.oneCell'])
  try simp only [World.setCells] at hR
  go_region_with (rw [hR])
  go_wp2
  clear hR hw1 hw2 hw3 l0 l1 l2 l3 f0 f1
  refine bodyPost_ret (v := .agg #[.int .i64 (cut3 0 x y z).1, .int .i64 (cut3 0 x y z).2.1, .int .i64 (cut3 0 x y z).2.2, .int .i64 (b - n * x)]) ?_ rfl ⟨rfl, (below2 w _ _).drew.drew⟩
  simp [results, Try.results64, go_sem, cut3]
set_option maxRecDepth 100000 in
set_option maxHeartbeats 1600000 in
theorem i_sliceat1 (x y z b n : Int) (hx : -1000 ≤ y ∧ y ≤ 1000) (hb : -1000 ≤ b ∧ b ≤ 1000) (hn : -1000 ≤ n ∧ n ≤ 1000) (w : World) :
    Calls Try.prog 64 #[.agg #[.int .i64 x, .int .i64 y, .int .i64 z, .int .i64 b], .int .i64 1, .int .i64 n] w (SlAt w 1 x y z (b - n * y)) := by
  obtain ⟨p1, p2⟩ := prod1000 hn hx
  obtain ⟨b1, b2⟩ := hb
  clear hn hx
  go_enter Try.func64, Try.ntmps64
  go_wp2
  go_region
  go_wp2
  have K := Lib.hid (Bk.pair w #[.int .i64 x, .int .i64 y, .int .i64 z, .int .i64 (b - n * y)] #[.int .i64 0, .int .i64 0, .int .i64 0, .int .i64 0] 91 91)
  obtain ⟨l0, l1, l2, l3⟩ := K.out.1.c4
  have f0 := K.out.1.free 0
  have f1 := K.out.1.free 1
  have hw1 : IntKind.i64.wrap 1 = 1 := rfl
  have hw2 : IntKind.i64.wrap 2 = 2 := rfl
  have hw3 : IntKind.i64.wrap 3 = 3 := rfl
  have hR := run_copy_cells (P := Try.prog) (((w.alloc (.cells #[.int .i64 x, .int .i64 y, .int .i64 z, .int .i64 (b - n * y)] 91)).alloc (.cells #[.int .i64 0, .int .i64 0, .int .i64 0, .int .i64 0] 91)).drew.drew) 30 30 3 3 w.heap.size 1 2 2 ⟨w.heap.size, 2, none⟩ 1 1 [.int .i64 z] Try.underlying30 int_sz1 rfl (src1 l2) (lt1 (Option.isSome_iff_exists.2 ⟨_, l1⟩)) (lt1 f1) (by simp [Value.oneCell'])
  try simp only [World.setCells] at hR
  go_region_with (rw [hR])
  go_wp2
  clear hR hw1 hw2 hw3 l0 l1 l2 l3 f0 f1
  refine bodyPost_ret (v := .agg #[.int .i64 (cut3 1 x y z).1, .int .i64 (cut3 1 x y z).2.1, .int .i64 (cut3 1 x y z).2.2, .int .i64 (b - n * y)]) ?_ rfl ⟨rfl, (below2 w _ _).drew.drew⟩
  simp [results, Try.results64, go_sem, cut3]
set_option maxRecDepth 100000 in
set_option maxHeartbeats 1600000 in
theorem i_sliceat2 (x y z b n : Int) (hx : -1000 ≤ z ∧ z ≤ 1000) (hb : -1000 ≤ b ∧ b ≤ 1000) (hn : -1000 ≤ n ∧ n ≤ 1000) (w : World) :
    Calls Try.prog 64 #[.agg #[.int .i64 x, .int .i64 y, .int .i64 z, .int .i64 b], .int .i64 2, .int .i64 n] w (SlAt w 2 x y z (b - n * z)) := by
  obtain ⟨p1, p2⟩ := prod1000 hn hx
  obtain ⟨b1, b2⟩ := hb
  clear hn hx
  go_enter Try.func64, Try.ntmps64
  go_wp2
  go_region
  go_wp2
  have K := Lib.hid (Bk.pair w #[.int .i64 x, .int .i64 y, .int .i64 z, .int .i64 (b - n * z)] #[.int .i64 0, .int .i64 0, .int .i64 0, .int .i64 0] 91 91)
  obtain ⟨l0, l1, l2, l3⟩ := K.out.1.c4
  have f0 := K.out.1.free 0
  have f1 := K.out.1.free 1
  have hw1 : IntKind.i64.wrap 1 = 1 := rfl
  have hw2 : IntKind.i64.wrap 2 = 2 := rfl
  have hw3 : IntKind.i64.wrap 3 = 3 := rfl
  have hR := run_copy_none (P := Try.prog) (((w.alloc (.cells #[.int .i64 x, .int .i64 y, .int .i64 z, .int .i64 (b - n * z)] 91)).alloc (.cells #[.int .i64 0, .int .i64 0, .int .i64 0, .int .i64 0] 91)).drew.drew) 30 30 3 3 (some ⟨w.heap.size, 2, none⟩) (some ⟨w.heap.size, 0, none⟩) 1 1 0 0 Try.underlying30 int_sz1 rfl
  try simp only [World.setCells] at hR
  go_region_with (rw [hR])
  go_wp2
  clear hR hw1 hw2 hw3 l0 l1 l2 l3 f0 f1
  refine bodyPost_ret (v := .agg #[.int .i64 (cut3 2 x y z).1, .int .i64 (cut3 2 x y z).2.1, .int .i64 (cut3 2 x y z).2.2, .int .i64 (b - n * z)]) ?_ rfl ⟨rfl, (below2 w _ _).drew.drew⟩
  simp [results, Try.results64, go_sem, cut3]
theorem i_sliceat (k : Nat) (hk : k < 3) (x y z b n u : Int) (hu : (match k with | 0 => x | 1 => y | _ => z) = u) (hx : -1000 ≤ u ∧ u ≤ 1000) (hb : -1000 ≤ b ∧ b ≤ 1000) (hn : -1000 ≤ n ∧ n ≤ 1000) (w : World) :
    Calls Try.prog 64 #[.agg #[.int .i64 x, .int .i64 y, .int .i64 z, .int .i64 b], .int .i64 k, .int .i64 n] w (SlAt w k x y z (b - n * u)) := by
  match k, hk with
  | 0, _ => subst hu; exact i_sliceat0 x y z b n hx hb hn w
  | 1, _ => subst hu; exact i_sliceat1 x y z b n hx hb hn w
  | 2, _ => subst hu; exact i_sliceat2 x y z b n hx hb hn w
end Go.Proofs.Ytmogncpkdkdodaa
/- The program's SliceOf. -/
namespace Go.Proofs.Ytmogncpkdkdodaa
open Go Go.RowKit Go.Lib

theorem allG_fx0 {c : List Int} (hl : c.length ≤ 3) (h : c.getD 0 0 = 0 ∧ c.getD 1 0 = 0 ∧ c.getD 2 0 = 0) : ¬ 0 < allG c := by
  obtain ⟨h1, h2, h3⟩ := h
  match c, hl with
  | [], _ => decide
  | [x], _ => simp at h1; subst h1; decide
  | [x, y], _ => simp at h1 h2; subst h1; subst h2; decide
  | [x, y, z], _ => simp at h1 h2 h3; subst h1; subst h2; subst h3; decide
theorem allG_fx1 {c : List Int} (h : ¬ (c.getD 0 0 = 0 ∧ c.getD 1 0 = 0 ∧ c.getD 2 0 = 0)) : 0 < allG c := by
  refine allG_pos fun hall => h ?_
  have key : ∀ i : Nat, c.getD i 0 = 0 := fun i => by
    rw [List.getD_eq_getElem?_getD]
    by_cases hi : i < c.length
    · rw [List.getElem?_eq_getElem hi]; exact hall _ (List.getElem_mem hi)
    · rw [List.getElem?_eq_none (by omega)]; rfl
  exact ⟨key 0, key 1, key 2⟩
theorem half_num {n : Int} {hs : List Hf} (h : regOk n hs = true) (k : Nat) (hk : k < hs.length) (i : Nat) : -20 ≤ hs[k].1.getD i 0 ∧ hs[k].1.getD i 0 ≤ 20 := by
  have hb := (halfOk_t ((regOk_t h).2.2.2 k hk)).2.2.2.1
  rw [List.getD_eq_getElem?_getD]
  by_cases hi : i < hs[k].1.length
  · rw [List.getElem?_eq_getElem hi]
    have := hb i hi
    simp only [Option.getD_some]; omega
  · rw [List.getElem?_eq_none (by omega)]
    simp
theorem pick3 (k : Nat) (hk : k < 3) (a : List Int) : (match k with | 0 => a.getD 0 0 | 1 => a.getD 1 0 | _ => a.getD 2 0) = a.getD k 0 := by
  match k, hk with
  | 0, _ => rfl
  | 1, _ => rfl
  | 2, _ => rfl
/-- What SliceOf's loop keeps. -/
def SlI (w w2 : World) (n : Int) (U F V : Value) (hs ks : List Hf) (wr : World) : Prop :=
  Bk wr w.heap.size #[.int .i64 n, U] 26 ∧ Bk wr (w.heap.size + 1) #[.int .i64 0, .slice none 0 0] 26 ∧ OwF 91 (w.heap.size + 2) w2.heap.size wr F hs ∧ OwF 91 w2.heap.size wr.heap.size wr V ks ∧ Below w.heap.size w wr ∧ w.heap.size + 2 ≤ w2.heap.size ∧ w2.heap.size ≤ wr.heap.size
theorem SlI.below {w w2 : World} {n : Int} {U F V : Value} {hs ks : List Hf} {wr wr' : World} (h : SlI w w2 n U F V hs ks wr) (hb : Below wr.heap.size wr wr') : SlI w w2 n U F V hs ks wr' :=
  ⟨h.1.below hb, h.2.1.below hb, h.2.2.1.below hb, (h.2.2.2.1.below hb).mono (Nat.le_refl _) hb.size, h.2.2.2.2.1.trans (hb.mono h.2.2.2.2.1.size), h.2.2.2.2.2.1, Nat.le_trans h.2.2.2.2.2.2 hb.size⟩
theorem SlI.since {w w2 : World} {n : Int} {U F V : Value} {hs ks : List Hf} {wr wr' : World} (h : SlI w w2 n U F V hs ks wr) (hb : Below wr.heap.size wr wr') : Below w.heap.size w wr' := h.2.2.2.2.1.trans (hb.mono h.2.2.2.2.1.size)
theorem OwF.nil {T : TypeId} {lo hi : Nat} {w : World} : OwF T lo hi w (.slice none 0 0) [] := ⟨⟨rfl, .inl ⟨rfl, rfl⟩⟩, fun b hb => by simp [Value.ownBlock] at hb⟩


set_option maxRecDepth 100000 in
set_option maxHeartbeats 3200000 in
theorem i_slice_f1 (n : Int) (hs' : List Hf) (k z : Int) (u : Value) (w : World) (hv : Rg w (.agg #[.int .i64 n, u]) (n, hs')) (hr : regOk n hs' = false) :
    Calls Try.prog 17 #[.agg #[.int .i64 n, u], .int .i64 k, .int .i64 z] w (GotG w ((0, []), false)) := by
  have HR := Lib.hid hv
  have C1 := Lib.hid hr
  have K := Lib.hid (Bk.pair w #[.int .i64 n, u] #[.int .i64 0, .slice none 0 0] 26 26)
  have B0 := Lib.hid (below2 w (.cells #[.int .i64 n, u] 26) (.cells #[.int .i64 0, .slice none 0 0] 26))
  obtain ⟨⟨l0, l1⟩, -⟩ := K.out.1.two
  clear hv hr
  go_enter Try.func17, Try.ntmps17
  go_wp2_with fail
  refine (i_isreg (n, hs') _ _ (HR.out.below B0.out)).mono ?_
  rintro e w1 ⟨rfl, hb⟩
  rw [C1.out]
  have B1 := Lib.hid (B0.out.trans (hb.mono B0.out.size))
  have K1 := Lib.hid (And.intro (K.out.1.below hb) (K.out.2.below hb))
  clear hb l0 l1
  obtain ⟨⟨m0, m1⟩, -⟩ := K1.out.1.two
  obtain ⟨⟨p0, p1⟩, pf0, pf1⟩ := K1.out.2.two
  go_wp2
  refine bodyPost_ret (v := .tuple #[.agg #[.int .i64 0, .slice none 0 0], .bool false]) ?_ rfl ⟨⟨_, rfl, OwG.zero⟩, (B1.out.setCell (by simp) _).setCell (by simp) _⟩
  simp [results, Try.results17, go_sem, p0, p1]


set_option maxRecDepth 100000 in
set_option maxHeartbeats 3200000 in
theorem i_slice_f2 (n : Int) (hs' : List Hf) (k z : Int) (u : Value) (w : World) (hv : Rg w (.agg #[.int .i64 n, u]) (n, hs')) (hr : regOk n hs' = true) (h1 : (n == 1) = true) :
    Calls Try.prog 17 #[.agg #[.int .i64 n, u], .int .i64 k, .int .i64 z] w (GotG w ((0, []), false)) := by
  have HR := Lib.hid hv
  have C1 := Lib.hid hr
  have K := Lib.hid (Bk.pair w #[.int .i64 n, u] #[.int .i64 0, .slice none 0 0] 26 26)
  have B0 := Lib.hid (below2 w (.cells #[.int .i64 n, u] 26) (.cells #[.int .i64 0, .slice none 0 0] 26))
  obtain ⟨⟨l0, l1⟩, -⟩ := K.out.1.two
  clear hv hr
  go_enter Try.func17, Try.ntmps17
  go_wp2_with fail
  refine (i_isreg (n, hs') _ _ (HR.out.below B0.out)).mono ?_
  rintro e w1 ⟨rfl, hb⟩
  rw [C1.out]
  have B1 := Lib.hid (B0.out.trans (hb.mono B0.out.size))
  have K1 := Lib.hid (And.intro (K.out.1.below hb) (K.out.2.below hb))
  clear hb l0 l1
  obtain ⟨⟨m0, m1⟩, -⟩ := K1.out.1.two
  obtain ⟨⟨p0, p1⟩, pf0, pf1⟩ := K1.out.2.two
  go_wp2
  refine bodyPost_ret (v := .tuple #[.agg #[.int .i64 0, .slice none 0 0], .bool false]) ?_ rfl ⟨⟨_, rfl, OwG.zero⟩, (B1.out.setCell (by simp) _).setCell (by simp) _⟩
  simp [results, Try.results17, go_sem, p0, p1]


set_option maxRecDepth 100000 in
set_option maxHeartbeats 3200000 in
theorem i_slice_f3 (n : Int) (hs' : List Hf) (k z : Int) (u : Value) (w : World) (hv : Rg w (.agg #[.int .i64 n, u]) (n, hs')) (hr : regOk n hs' = true) (h1 : (n == 1) = false) (h2 : k < 0) :
    Calls Try.prog 17 #[.agg #[.int .i64 n, u], .int .i64 k, .int .i64 z] w (GotG w ((0, []), false)) := by
  have HR := Lib.hid hv
  have C1 := Lib.hid hr
  have K := Lib.hid (Bk.pair w #[.int .i64 n, u] #[.int .i64 0, .slice none 0 0] 26 26)
  have B0 := Lib.hid (below2 w (.cells #[.int .i64 n, u] 26) (.cells #[.int .i64 0, .slice none 0 0] 26))
  obtain ⟨⟨l0, l1⟩, -⟩ := K.out.1.two
  clear hv hr
  go_enter Try.func17, Try.ntmps17
  go_wp2_with fail
  refine (i_isreg (n, hs') _ _ (HR.out.below B0.out)).mono ?_
  rintro e w1 ⟨rfl, hb⟩
  rw [C1.out]
  have B1 := Lib.hid (B0.out.trans (hb.mono B0.out.size))
  have K1 := Lib.hid (And.intro (K.out.1.below hb) (K.out.2.below hb))
  clear hb l0 l1
  obtain ⟨⟨m0, m1⟩, -⟩ := K1.out.1.two
  obtain ⟨⟨p0, p1⟩, pf0, pf1⟩ := K1.out.2.two
  go_wp2
  refine bodyPost_ret (v := .tuple #[.agg #[.int .i64 0, .slice none 0 0], .bool false]) ?_ rfl ⟨⟨_, rfl, OwG.zero⟩, (B1.out.setCell (by simp) _).setCell (by simp) _⟩
  simp [results, Try.results17, go_sem, p0, p1]


set_option maxRecDepth 100000 in
set_option maxHeartbeats 3200000 in
theorem i_slice_f4 (n : Int) (hs' : List Hf) (k z : Int) (u : Value) (w : World) (hv : Rg w (.agg #[.int .i64 n, u]) (n, hs')) (hr : regOk n hs' = true) (h1 : (n == 1) = false) (h2 : 0 ≤ k) (h3 : n ≤ k) :
    Calls Try.prog 17 #[.agg #[.int .i64 n, u], .int .i64 k, .int .i64 z] w (GotG w ((0, []), false)) := by
  have HR := Lib.hid hv
  have C1 := Lib.hid hr
  have K := Lib.hid (Bk.pair w #[.int .i64 n, u] #[.int .i64 0, .slice none 0 0] 26 26)
  have B0 := Lib.hid (below2 w (.cells #[.int .i64 n, u] 26) (.cells #[.int .i64 0, .slice none 0 0] 26))
  obtain ⟨⟨l0, l1⟩, -⟩ := K.out.1.two
  clear hv hr
  go_enter Try.func17, Try.ntmps17
  go_wp2_with fail
  refine (i_isreg (n, hs') _ _ (HR.out.below B0.out)).mono ?_
  rintro e w1 ⟨rfl, hb⟩
  rw [C1.out]
  have B1 := Lib.hid (B0.out.trans (hb.mono B0.out.size))
  have K1 := Lib.hid (And.intro (K.out.1.below hb) (K.out.2.below hb))
  clear hb l0 l1
  obtain ⟨⟨m0, m1⟩, -⟩ := K1.out.1.two
  obtain ⟨⟨p0, p1⟩, pf0, pf1⟩ := K1.out.2.two
  go_wp2
  refine bodyPost_ret (v := .tuple #[.agg #[.int .i64 0, .slice none 0 0], .bool false]) ?_ rfl ⟨⟨_, rfl, OwG.zero⟩, (B1.out.setCell (by simp) _).setCell (by simp) _⟩
  simp [results, Try.results17, go_sem, p0, p1]


set_option maxRecDepth 100000 in
set_option maxHeartbeats 3200000 in
theorem i_slice_f5 (n : Int) (hs' : List Hf) (k z : Int) (u : Value) (w : World) (hv : Rg w (.agg #[.int .i64 n, u]) (n, hs')) (hr : regOk n hs' = true) (h1 : (n == 1) = false) (h2 : 0 ≤ k) (h3 : k < n) (h4 : z < -6) :
    Calls Try.prog 17 #[.agg #[.int .i64 n, u], .int .i64 k, .int .i64 z] w (GotG w ((0, []), false)) := by
  have HR := Lib.hid hv
  have C1 := Lib.hid hr
  have K := Lib.hid (Bk.pair w #[.int .i64 n, u] #[.int .i64 0, .slice none 0 0] 26 26)
  have B0 := Lib.hid (below2 w (.cells #[.int .i64 n, u] 26) (.cells #[.int .i64 0, .slice none 0 0] 26))
  obtain ⟨⟨l0, l1⟩, -⟩ := K.out.1.two
  clear hv hr
  go_enter Try.func17, Try.ntmps17
  go_wp2_with fail
  refine (i_isreg (n, hs') _ _ (HR.out.below B0.out)).mono ?_
  rintro e w1 ⟨rfl, hb⟩
  rw [C1.out]
  have B1 := Lib.hid (B0.out.trans (hb.mono B0.out.size))
  have K1 := Lib.hid (And.intro (K.out.1.below hb) (K.out.2.below hb))
  clear hb l0 l1
  obtain ⟨⟨m0, m1⟩, -⟩ := K1.out.1.two
  obtain ⟨⟨p0, p1⟩, pf0, pf1⟩ := K1.out.2.two
  go_wp2
  refine bodyPost_ret (v := .tuple #[.agg #[.int .i64 0, .slice none 0 0], .bool false]) ?_ rfl ⟨⟨_, rfl, OwG.zero⟩, (B1.out.setCell (by simp) _).setCell (by simp) _⟩
  simp [results, Try.results17, go_sem, p0, p1]


set_option maxRecDepth 100000 in
set_option maxHeartbeats 3200000 in
theorem i_slice_f6 (n : Int) (hs' : List Hf) (k z : Int) (u : Value) (w : World) (hv : Rg w (.agg #[.int .i64 n, u]) (n, hs')) (hr : regOk n hs' = true) (h1 : (n == 1) = false) (h2 : 0 ≤ k) (h3 : k < n) (h4 : -6 ≤ z) (h5 : 6 < z) :
    Calls Try.prog 17 #[.agg #[.int .i64 n, u], .int .i64 k, .int .i64 z] w (GotG w ((0, []), false)) := by
  have HR := Lib.hid hv
  have C1 := Lib.hid hr
  have K := Lib.hid (Bk.pair w #[.int .i64 n, u] #[.int .i64 0, .slice none 0 0] 26 26)
  have B0 := Lib.hid (below2 w (.cells #[.int .i64 n, u] 26) (.cells #[.int .i64 0, .slice none 0 0] 26))
  obtain ⟨⟨l0, l1⟩, -⟩ := K.out.1.two
  clear hv hr
  go_enter Try.func17, Try.ntmps17
  go_wp2_with fail
  refine (i_isreg (n, hs') _ _ (HR.out.below B0.out)).mono ?_
  rintro e w1 ⟨rfl, hb⟩
  rw [C1.out]
  have B1 := Lib.hid (B0.out.trans (hb.mono B0.out.size))
  have K1 := Lib.hid (And.intro (K.out.1.below hb) (K.out.2.below hb))
  clear hb l0 l1
  obtain ⟨⟨m0, m1⟩, -⟩ := K1.out.1.two
  obtain ⟨⟨p0, p1⟩, pf0, pf1⟩ := K1.out.2.two
  go_wp2
  refine bodyPost_ret (v := .tuple #[.agg #[.int .i64 0, .slice none 0 0], .bool false]) ?_ rfl ⟨⟨_, rfl, OwG.zero⟩, (B1.out.setCell (by simp) _).setCell (by simp) _⟩
  simp [results, Try.results17, go_sem, p0, p1]


set_option maxRecDepth 100000 in
set_option maxHeartbeats 6400000 in
theorem i_slice_t (N : Nat) (hs' : List Hf) (k : Nat) (z : Int) (u : Value) (w : World) (hv : Rg w (.agg #[.int .i64 N, u]) ((N : Int), hs')) (hr : regOk N hs' = true) (h1 : 2 ≤ N) (h3 : k < N) (h4 : -6 ≤ z) (h5 : z ≤ 6) :
    Calls Try.prog 17 #[.agg #[.int .i64 N, u], .int .i64 k, .int .i64 z] w (GotG w (slRes N k z hs')) := by
  have HR := Lib.hid hv
  have C1 := Lib.hid hr
  have R8 := Lib.hid (regOk_t hr)
  have K := Lib.hid (Bk.pair w #[.int .i64 N, u] #[.int .i64 0, .slice none 0 0] 26 26)
  have B0 := Lib.hid (below2 w (.cells #[.int .i64 N, u] 26) (.cells #[.int .i64 0, .slice none 0 0] 26))
  have hN3 : N ≤ 3 := by have := R8.out.2.1; omega
  obtain ⟨⟨l0, l1⟩, -⟩ := K.out.1.two
  clear hv hr
  have h2 : ((N : Int) == 1) = false := by rw [beq_eq_false_iff_ne]; omega
  have h6 : (0 : Int) ≤ (k : Int) := by omega
  have h7 : (k : Int) < (N : Int) := by omega
  go_enter Try.func17, Try.ntmps17
  go_wp2_with fail
  refine (i_isreg ((N : Int), hs') _ _ (HR.out.below B0.out)).mono ?_
  rintro e w1 ⟨rfl, hb⟩
  rw [C1.out]
  have B1 := Lib.hid (B0.out.trans (hb.mono B0.out.size))
  have K1 := Lib.hid (And.intro (K.out.1.below hb) (K.out.2.below hb))
  have Z1 := Lib.hid (show w.heap.size + 2 ≤ w1.heap.size from K1.out.2.lt)
  clear hb l0 l1
  obtain ⟨⟨m0, m1⟩, -⟩ := K1.out.1.two
  go_wp2_with fail
  refine (i_fixed ((N : Int), hs') _ _ (HR.out.below B1.out) (fun k hk => by have h := halfOk_t (R8.out.2.2.2 k hk); simp only at h ⊢; omega) R8.out.2.2.1).mono ?_
  rintro e w2 ⟨⟨g, zc, rfl, ho⟩, hb⟩
  have HI := Lib.hid (show SlI w w2 N u (.slice (some ⟨g, 0, none⟩) hs'.length zc) (.slice none 0 0) hs' (slL k z (hs'.take 0)) w2 from
    ⟨K1.out.1.below hb, K1.out.2.below hb, ho.mono Z1.out (Nat.le_refl _), OwF.nil, B1.out.trans (hb.mono B1.out.size), Nat.le_trans Z1.out hb.size, Nat.le_refl _⟩)
  clear ho hb m0 m1
  go_wp2
  go_loopw [8, 41] (fun o i wr => ∃ (j : Nat) (V : Value), j ≤ hs'.length ∧ i = .int .i64 j ∧ V = o ∧ (hs'.take j).all (slOk k z) = true ∧ SlI w w2 N u (.slice (some ⟨g, 0, none⟩) hs'.length zc) V hs' (slL k z (hs'.take j)) wr) (fun _ i _ => hs'.length - (RowKit.intOf i).toNat)
  case atStart => exact ⟨0, _, Nat.zero_le _, rfl, rfl, rfl, HI.out⟩
  case round =>
    obtain ⟨j, V, hj, rfl, rfl, hal, hci⟩ := hrel
    have HC := Lib.hid hci
    have HAl := Lib.hid hal
    clear hal
    by_cases hlt : j < hs'.length
    case neg =>
      obtain rfl : j = hs'.length := by omega
      have HE := Lib.hid (show hs'.all (slOk k z) = true by have h := HAl.out; rw [List.take_length] at h; exact h)
      have HF := Lib.hid (show OwF 91 w2.heap.size wr.heap.size wr V (slL k z hs') by have h := HC.out.2.2.2.1; rw [List.take_length] at h; exact h)
      obtain ⟨va, vc, rfl, _⟩ := HF.out.shape
      have HLn := Lib.hid (fun i hi => slL_lens (n := N) (k := k) (z := z) (hs := hs') (fun i hi => by have h := halfOk_t (R8.out.2.2.2 i hi); omega) h3 i hi)
      obtain ⟨⟨m0, m1⟩, -⟩ := HC.out.1.two
      clear hci
      have hN1 : ((N : Int) - 1) = ((N - 1 : Nat) : Int) := by omega
      have HRR := Lib.hid (show slRes N k z hs' = regR (N - 1 : Nat) (slL k z hs') by unfold slRes regR; rw [if_pos HE.out, hN1])
      go_wp2_with fail
      refine (i_regof (N - 1) (slL k z hs') _ _ _ _ HF.out (by omega) (by omega) (fun i hi => HLn.out i hi) (by have := slL_len k z hs'; have := R8.out.2.2.1; omega)).mono ?_
      rintro e w8 ⟨⟨zz, rfl, zu, rfl, ho⟩, hb⟩
      obtain ⟨ra, rc, rfl, _⟩ := ho.hs.shape
      have HO := Lib.hid ho
      have K8 := Lib.hid (HC.out.2.1.below hb)
      have B8 := Lib.hid (HC.out.since hb)
      have Z8 := Lib.hid (show w.heap.size + 2 ≤ wr.heap.size from Nat.le_trans HC.out.2.2.2.2.2.1 HC.out.2.2.2.2.2.2)
      clear ho hb m0 m1
      obtain ⟨⟨p0, p1⟩, pf0, pf1⟩ := K8.out.two
      go_wp2
      refine bodyPost_ret (v := .tuple #[.agg #[.int .i64 (regR (N - 1 : Nat) (slL k z hs')).1.1, .slice ra (regR (N - 1 : Nat) (slL k z hs')).1.2.length rc], .bool (regR (N - 1 : Nat) (slL k z hs')).2]) ?_ rfl (got_mk2 HRR.out ⟨⟨_, rfl, _, rfl, ?_⟩, (B8.out.setCell (by show _ ≤ w.heap.size + 1; omega) _).setCell (by show _ ≤ w.heap.size + 1; omega) _⟩)
      · simp [results, Try.results17, go_sem, p0, p1]
      · have hz := Z8.out
        exact (HO.out.kept (((Kept.refl (w.heap.size + 1) (w.heap.size + 2) w8).setCell (p := ⟨w.heap.size + 1, 0, none⟩) (Nat.le_refl _) (Nat.lt_succ_self _) _).setCell (p := ⟨w.heap.size + 1, 1, none⟩) (Nat.le_refl _) (Nat.lt_succ_self _) _) (.inr (by omega))).mono (by omega) (by simp [World.setCell])
    obtain ⟨b', e1, _, _, p4, _, ⟨d0, d1, d2, d3⟩, _⟩ := HC.out.2.2.1.at j hlt rfl
    simp only [Option.some.injEq, Addr.mk.injEq, and_true] at e1
    subst e1
    have hk1 := halfOk_t (R8.out.2.2.2 j hlt)
    have HT := Lib.hid (all_take' (f := slOk k z) hlt HAl.out)
    have HNo := Lib.hid (all_not' (f := slOk k z) (m := hs') hlt)
    have HLT := Lib.hid (slL_take (k := k) (z := z) hlt)
    have HCf := cut3_fx k hs'[j].1 (by omega) (by omega) (by omega)
    have n3 : -200 ≤ hs'[j].2 ∧ hs'[j].2 ≤ 200 := by omega
    have nk := half_num C1.out j hlt k
    have hu := pick3 k (by omega) hs'[j].1
    have hlc : (slH k z hs'[j]).1.length ≤ 3 := by show (cutN k hs'[j].1).length ≤ 3; rw [cutN_len (by omega)]; omega
    have HCT := Lib.hid (fun W => i_sliceat k (by omega) (hs'[j].1.getD 0 0) (hs'[j].1.getD 1 0) (hs'[j].1.getD 2 0) hs'[j].2 z (hs'[j].1.getD k 0) hu (by omega) (by omega) (by omega) W)
    obtain ⟨c, hc⟩ : ∃ c, slH k z hs'[j] = c := ⟨_, rfl⟩
    have hc1 : cutN k hs'[j].1 = c.1 := by rw [← hc]; rfl
    have hc2 : hs'[j].2 - z * hs'[j].1.getD k 0 = c.2 := by rw [← hc]; show _ = hs'[j].2 - hs'[j].1.getD k 0 * z; rw [Int.mul_comm]
    rw [hc1] at HCf
    rw [hc2] at HCT
    rw [hc] at HLT hlc
    have hok : slOk k z hs'[j] = (decide (0 < allG c.1) || decide (0 ≤ c.2)) := by unfold slOk; rw [hc]
    rw [hok] at HT HNo
    obtain ⟨x0, hx0⟩ : ∃ q : Int, hs'[j].1.getD 0 0 = q := ⟨_, rfl⟩
    obtain ⟨x1, hx1⟩ : ∃ q : Int, hs'[j].1.getD 1 0 = q := ⟨_, rfl⟩
    obtain ⟨x2, hx2⟩ : ∃ q : Int, hs'[j].1.getD 2 0 = q := ⟨_, rfl⟩
    obtain ⟨x3, hx3⟩ : ∃ q : Int, hs'[j].2 = q := ⟨_, rfl⟩
    rw [hx0, hx1, hx2] at HCT HCf
    rw [hx3] at HCT
    rw [hx0] at d0
    rw [hx1] at d1
    rw [hx2] at d2
    rw [hx3] at d3
    obtain ⟨y0, hy0⟩ : ∃ q : Int, c.1.getD 0 0 = q := ⟨_, rfl⟩
    obtain ⟨y1, hy1⟩ : ∃ q : Int, c.1.getD 1 0 = q := ⟨_, rfl⟩
    obtain ⟨y2, hy2⟩ : ∃ q : Int, c.1.getD 2 0 = q := ⟨_, rfl⟩
    obtain ⟨y3, hy3⟩ : ∃ q : Int, c.2 = q := ⟨_, rfl⟩
    rw [hy0, hy1, hy2] at HCf
    rw [hy3] at HCT HT HNo
    have HCU := Lib.hid (fun W => (show Calls Try.prog 64 #[.agg #[.int .i64 x0, .int .i64 x1, .int .i64 x2, .int .i64 x3], .int .i64 k, .int .i64 z] W (fun e w' => e = .returned (.agg #[.int .i64 y0, .int .i64 y1, .int .i64 y2, .int .i64 y3]) ∧ Below W.heap.size W w') from (HCT.out W).mono (fun e w' h => by obtain ⟨rfl, hb⟩ := h; rw [HCf]; exact ⟨rfl, hb⟩)))
    have HY := Lib.hid (And.intro hy0 (And.intro hy1 (And.intro hy2 hy3)))
    have HLC := Lib.hid hlc
    have HNB := Lib.hid (below1 wr (.cells #[.int .i64 x0, .int .i64 x1, .int .i64 x2, .int .i64 x3] 91))
    have KH := Lib.hid (Bk.new wr #[.int .i64 x0, .int .i64 x1, .int .i64 x2, .int .i64 x3] 91)
    have i1 : (0 : Int) ≤ (j : Int) := by omega
    have i2 : (j : Int) < (hs'.length : Int) := by omega
    clear hk1 n3 nk hu hlc HCT hc hc1 hc2 HCf hok hx0 hx1 hx2 hx3 hy0 hy1 hy2 hy3
    go_wp2_with fail
    refine (HCU.out _).mono ?_
    rintro e w6 ⟨rfl, hb⟩
    have HB6 := Lib.hid (HNB.out.trans (hb.mono HNB.out.size))
    have K6 := Lib.hid (KH.out.below hb)
    clear hb d0 d1 d2 d3
    have l0 : w6.cell? ⟨wr.heap.size, 0, none⟩ = some (.int .i64 x0) := K6.out.cell 0 rfl
    have l1 : w6.cell? ⟨wr.heap.size, 1, none⟩ = some (.int .i64 x1) := K6.out.cell 1 rfl
    have l2 : w6.cell? ⟨wr.heap.size, 2, none⟩ = some (.int .i64 x2) := K6.out.cell 2 rfl
    have l3 : w6.cell? ⟨wr.heap.size, 3, none⟩ = some (.int .i64 x3) := K6.out.cell 3 rfl
    have f0 := K6.out.free 0
    have f1 := K6.out.free 1
    have f2 := K6.out.free 2
    have f3 := K6.out.free 3
    have HB7 := Lib.hid (show Below wr.heap.size wr ((((w6.setCell ⟨wr.heap.size, 0, none⟩ (.int .i64 y0)).setCell ⟨wr.heap.size, 1, none⟩ (.int .i64 y1)).setCell ⟨wr.heap.size, 2, none⟩ (.int .i64 y2)).setCell ⟨wr.heap.size, 3, none⟩ (.int .i64 y3)) from ((((HB6.out.setCell (Nat.le_refl _) _).setCell (Nat.le_refl _) _).setCell (Nat.le_refl _) _).setCell (Nat.le_refl _) _))
    have hl8 := R8.out.2.2.1
    by_cases hz : y0 = 0 ∧ y1 = 0 ∧ y2 = 0
    · have HG := Lib.hid (allG_fx0 HLC.out (by rw [HY.out.1, HY.out.2.1, HY.out.2.2.1]; exact hz))
      obtain ⟨rfl, rfl, rfl⟩ := hz
      have hq := eq_arr_t (x := 0) (y := 0) (z := 0) (x' := 0) (y' := 0) (z' := 0) ⟨rfl, rfl, rfl⟩
      by_cases hy : y3 < 0
      · have HRes := Lib.hid (slRes_f (n := N) (HNo.out (by rw [decide_eq_false HG.out, decide_eq_false (by omega)]; rfl)))
        have K7 := Lib.hid (HC.out.2.1.below HB6.out)
        have hne : w.heap.size + 1 < wr.heap.size := HC.out.2.1.lt
        obtain ⟨⟨p0, p1⟩, pf0, pf1⟩ := K7.out.two
        go_wp2
        · rw [HRes.out]
          refine bodyPost_ret (v := .tuple #[.agg #[.int .i64 0, .slice none 0 0], .bool false]) ?_ rfl ⟨⟨_, rfl, OwG.zero⟩, ((HC.out.since HB7.out).setCell (by simp) _).setCell (by simp) _⟩
          simp [results, Try.results17, go_sem, p0, p1]
      · have HA := Lib.hid (HT.out (by rw [decide_eq_true (show 0 ≤ y3 by omega)]; simp))
        go_wp2
        exact ⟨⟨j + 1, _, by omega, by go_num, rfl, HA.out, by rw [HLT.out, if_neg (by have := HG.out; omega), List.append_nil]; exact HC.out.below HB7.out⟩, by simp [RowKit.intOf]; omega⟩
    · have HG := Lib.hid (allG_fx1 (c := c.1) (by rw [HY.out.1, HY.out.2.1, HY.out.2.2.1]; exact hz))
      have HA := Lib.hid (HT.out (by rw [decide_eq_true HG.out]; rfl))
      have hq := eq_arr_f (x' := 0) (y' := 0) (z' := 0) hz
      have HC8 := Lib.hid ((HC.out.below HB7.out).below (below1 ((((w6.setCell ⟨wr.heap.size, 0, none⟩ (.int .i64 y0)).setCell ⟨wr.heap.size, 1, none⟩ (.int .i64 y1)).setCell ⟨wr.heap.size, 2, none⟩ (.int .i64 y2)).setCell ⟨wr.heap.size, 3, none⟩ (.int .i64 y3)) (.cells #[.int .i64 y0, .int .i64 y1, .int .i64 y2, .int .i64 y3] 91)))
      have HNN := Lib.hid (show (((((w6.setCell ⟨wr.heap.size, 0, none⟩ (.int .i64 y0)).setCell ⟨wr.heap.size, 1, none⟩ (.int .i64 y1)).setCell ⟨wr.heap.size, 2, none⟩ (.int .i64 y2)).setCell ⟨wr.heap.size, 3, none⟩ (.int .i64 y3)).alloc (.cells #[.int .i64 y0, .int .i64 y1, .int .i64 y2, .int .i64 y3] 91)).heap[w6.heap.size]? = some (.cells #[.int .i64 (c.1.getD 0 0), .int .i64 (c.1.getD 1 0), .int .i64 (c.1.getD 2 0), .int .i64 c.2] 91 (0, 0)) by rw [HY.out.1, HY.out.2.1, HY.out.2.2.1, HY.out.2.2.2, show w6.heap.size = ((((w6.setCell ⟨wr.heap.size, 0, none⟩ (.int .i64 y0)).setCell ⟨wr.heap.size, 1, none⟩ (.int .i64 y1)).setCell ⟨wr.heap.size, 2, none⟩ (.int .i64 y2)).setCell ⟨wr.heap.size, 3, none⟩ (.int .i64 y3)).heap.size by simp]; exact heap_alloc_new ((((w6.setCell ⟨wr.heap.size, 0, none⟩ (.int .i64 y0)).setCell ⟨wr.heap.size, 1, none⟩ (.int .i64 y1)).setCell ⟨wr.heap.size, 2, none⟩ (.int .i64 y2)).setCell ⟨wr.heap.size, 3, none⟩ (.int .i64 y3)) _)
      have hM : (slL k z (hs'.take j)).length ≤ 1099511627776 := by have := slL_len k z (hs'.take j); rw [List.length_take] at this; omega
      have HZ8 := Lib.hid (show w2.heap.size ≤ (((((w6.setCell ⟨wr.heap.size, 0, none⟩ (.int .i64 y0)).setCell ⟨wr.heap.size, 1, none⟩ (.int .i64 y1)).setCell ⟨wr.heap.size, 2, none⟩ (.int .i64 y2)).setCell ⟨wr.heap.size, 3, none⟩ (.int .i64 y3)).alloc (.cells #[.int .i64 y0, .int .i64 y1, .int .i64 y2, .int .i64 y3] 91)).heap.size from HC8.out.2.2.2.2.2.2)
      go_wp2_with (at_builtin; refine list_app_fx rfl _ _ rfl w2.heap.size _ _ (slL k z (hs'.take j)) c rfl HC8.out.2.2.2.1 w6.heap.size rfl HNN.out hM HZ8.out ?_; intro g7 cap w7 ho7 hb7 hg7 hat7)
      have hz2 : w.heap.size + 2 ≤ w2.heap.size := HC8.out.2.2.2.2.2.1
      have hown := HC8.out.2.2.2.1
      refine ⟨⟨j + 1, _, by omega, by go_num, rfl, HA.out, HC8.out.1.since hb7 (by omega), HC8.out.2.1.since hb7 (by omega), HC8.out.2.2.1.grown hg7 ?_, ?_, HC8.out.2.2.2.2.1.trans (hb7.mono (by omega)), hz2, Nat.le_trans HZ8.out hg7.size⟩, by simp [RowKit.intOf]; omega⟩
      · intro b hb e
        have h1 := HC8.out.2.2.1.2 b hb
        have h2 := (hown.1.lt b e.symm).1
        omega
      · rw [HLT.out, if_pos HG.out]
        exact ho7
end Go.Proofs.Ytmogncpkdkdodaa
