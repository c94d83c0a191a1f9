/-
  Trees that own their memory; contracts of the laws' own functions that copy a tree.
  Contracts of the laws' own functions that copy a tree, of any height.
  Machines in memory: the laws' own functions on them.
-/
import Derived.Test.YthfmifdpldmbaaaOfFirst3
import Derived.Test.YthfmifdpldmbaaaOfFirst2
namespace Go.Proofs.Ythfmifdpldmbaaa
set_option maxRecDepth 100000
set_option maxHeartbeats 8000000
section
open Go.RowKit

def TreeOwn : Nat → World → Nat → TV → Tr → Prop
 | 0, _, _, _, _ => False
 | n + 1, w, base, x, T => x.lf = T.leaf ∧ w.ownsRow base 152 2 x.p T.pairs.length (flatP T.pairs) ∧ w.ownsRow base 3 1 x.c T.cuts.length (flatI T.cuts) ∧ w.ownsRow base 47 3 x.b T.buf.length (flatM T.buf) ∧
   ∃ xs : List TV, xs.length = T.kids.length ∧ w.ownsRow base 90 5 x.k xs.length (flatT xs) ∧ ∀ i, i < xs.length → TreeOwn n w base (tvAt xs i) (kidT T i)

theorem owns_same {w w' : World} {base e size n : Nat} {v : Value} {xs : List Value} (h : w.ownsRow base e size v n xs) (hb : ∀ g, base ≤ g → g < w.heap.size → w'.heap[g]? = w.heap[g]?) : w'.ownsRow base e size v n xs := by
 obtain ⟨hl, h | ⟨g, cap, cur, rfl, hg, hh, hn, hcap, hsz, htake⟩⟩ := h
 ·exact ⟨hl, .inl h⟩
 ·refine ⟨hl, .inr ⟨g, cap, cur, rfl, hg, ?_, hn, hcap, hsz, htake⟩⟩
  rw [hb g hg (Array.getElem?_eq_some_iff.1 hh).1]
  exact hh
theorem TreeOwn.same : ∀ {n : Nat} {w w' : World} {base : Nat} {x : TV} {T : Tr}, TreeOwn n w base x T → (∀ g, base ≤ g → g < w.heap.size → w'.heap[g]? = w.heap[g]?) → TreeOwn n w' base x T
 | 0, _, _, _, _, _, h, _ => h
 | _ + 1, _, _, _, _, _, ⟨h1, h2, h3, h4, xs, h5, h6, h7⟩, hb => ⟨h1, owns_same h2 hb, owns_same h3 hb, owns_same h4 hb, xs, h5, owns_same h6 hb, fun i hi => (h7 i hi).same hb⟩
theorem TreeOwn.below {n : Nat} {w w' : World} {base : Nat} {x : TV} {T : Tr} (h : TreeOwn n w base x T) (hb : Below w.heap.size w w') : TreeOwn n w' base x T :=
 h.same fun g _ hg => hb.block g hg
theorem TreeOwn.low : ∀ {n : Nat} {w : World} {base base' : Nat} {x : TV} {T : Tr}, TreeOwn n w base x T → base' ≤ base → TreeOwn n w base' x T
 | 0, _, _, _, _, _, h, _ => h
 | _ + 1, _, _, _, _, _, ⟨h1, h2, h3, h4, xs, h5, h6, h7⟩, hb => ⟨h1, owns_mono h2 hb, owns_mono h3 hb, owns_mono h4 hb, xs, h5, owns_mono h6 hb, fun i hi => (h7 i hi).low hb⟩
theorem TreeOwn.treeAt : ∀ {n : Nat} {w : World} {base : Nat} {x : TV} {T : Tr}, TreeOwn n w base x T → TreeAt n w x T
 | 0, _, _, _, _, h => h
 | _ + 1, _, _, _, _, ⟨h1, h2, h3, h4, xs, h5, h6, h7⟩ => ⟨h1, Row.of_owns h2, Row.of_owns h3, Row.of_owns h4, xs, h5, Row.of_owns h6, fun i hi => (h7 i hi).treeAt⟩
def TreesOwn (n : Nat) (w : World) (base : Nat) (v : Value) (ts : List Tr) : Prop :=
 ∃ xs : List TV, xs.length = ts.length ∧ w.ownsRow base 90 5 v xs.length (flatT xs) ∧ ∀ i, i < xs.length → TreeOwn n w base (tvAt xs i) (ts.getD i noTr)
theorem TreesOwn.below {n : Nat} {w w' : World} {base : Nat} {v : Value} {ts : List Tr} (h : TreesOwn n w base v ts) (hb : Below w.heap.size w w') : TreesOwn n w' base v ts := by
 obtain ⟨xs, h5, h6, h7⟩ := h
 exact ⟨xs, h5, owns_below h6 hb, fun i hi => (h7 i hi).below hb⟩
theorem TreesOwn.low {n : Nat} {w : World} {base base' : Nat} {v : Value} {ts : List Tr} (h : TreesOwn n w base v ts) (hb : base' ≤ base) : TreesOwn n w base' v ts := by
 obtain ⟨xs, h5, h6, h7⟩ := h
 exact ⟨xs, h5, owns_mono h6 hb, fun i hi => (h7 i hi).low hb⟩
theorem TreeOwn.mk {n : Nat} {w : World} {base : Nat} {x : TV} {T : Tr} (h1 : x.lf = T.leaf) (h2 : w.ownsRow base 152 2 x.p T.pairs.length (flatP T.pairs)) (h3 : w.ownsRow base 3 1 x.c T.cuts.length (flatI T.cuts)) (h4 : w.ownsRow base 47 3 x.b T.buf.length (flatM T.buf)) (h5 : TreesOwn n w base x.k T.kids) : TreeOwn (n + 1) w base x T := by
 obtain ⟨xs, h5, h6, h7⟩ := h5
 exact ⟨h1, h2, h3, h4, xs, h5, h6, h7⟩
theorem Try.info3 : (Try.prog.info? 3).map (fun i => (i.zero, i.size, i.bytes)) = some (some (.int .i64 0), 1, 8) := by kernel_rfl
theorem Try.info90 : (Try.prog.info? 90).map (fun i => (i.zero, i.size, i.bytes)) = some (some (.agg #[.bool false, .slice none 0 0, .slice none 0 0, .slice none 0 0, .slice none 0 0]), 5, 104) := by kernel_rfl

def filledI (l : List Int) (k : Nat) : List Int := l.take k ++ List.replicate (l.length - k) 0
theorem filledI_length (l : List Int) (k : Nat) (hk : k ≤ l.length) : (filledI l k).length = l.length := by simp [filledI]; omega
theorem filledI_full (l : List Int) : filledI l l.length = l := by simp [filledI]
theorem filledI_step (l : List Int) (k : Nat) (hk : k < l.length) : (filledI l k).set k (iAt l k) = filledI l (k + 1) := by
 obtain ⟨m, hm⟩ : ∃ m, l.length - k = m + 1 := ⟨l.length - k - 1, by omega⟩
 have e : iAt l k = l[k] := by simp [iAt, List.getD, hk]
 rw [filledI, filledI, List.take_succ_eq_append_getElem hk, hm, show l.length - (k + 1) = m by omega, List.replicate_succ, List.set_append_right _ _ (by simp; omega), e, List.append_assoc]
 simp only [List.length_take, show min k l.length = k by omega, Nat.sub_self, List.set_cons_zero, List.singleton_append]
theorem flatI_set (l : List Int) (i : Nat) (x : Int) : (flatI l).set i (.int .i64 x) = flatI (l.set i x) := by simp [flatI, List.map_set]

theorem toIntS_any (v : Value) (l : List Int) (w : World) (hr : Row w v l.length (flatI l)) (hn : l.length ≤ 1048576) :
  Calls Try.prog 47 #[v] w fun e w' => ∃ v', e = .returned v' ∧ w'.ownsRow w.heap.size 3 1 v' l.length (flatI l) ∧ Below w.heap.size w w' := by
 obtain ⟨a, b, off, cap, rfl, hcap, hmax, ha, hk⟩ := hr.ints
 obtain ⟨i0, hi, hz0, hz1, hz2⟩ := info_parts Try.info3
 unfold maxLen at hmax
 go_enter Try.func47, Try.ntmps47
 go_wp2_with (at_make; refine wpList_make_full _ rfl _ _ 70 rfl w.heap.size 3 i0 _ 1 Try.underlying70 hi hz0 hz1 .i64 .i64 _ _ l.length rfl rfl rfl rfl ?c1 ?c2 ?c3 ?_)
 case c1 => rw [hz2]; omega
 case c2 => unfold maxLen; omega
 case c3 => exact Nat.le_refl _
 intro w0 hown0 hgrow0
 have hb0 : Below w.heap.size w w0 := (Below.refl _ _).grown hgrow0 (Nat.le_refl _) (fun k hk => by cases hk)
 clear hgrow0
 go_wp2
 go_loopw [4] (fun i wr => ∃ k : Nat, k ≤ l.length ∧ i = .int .i64 k ∧ wr.ownsRow w.heap.size 3 1 (.slice (some ⟨w.heap.size, 0, none⟩) l.length l.length) l.length (flatI (filledI l k)) ∧ Below w.heap.size w wr)
  (fun i _ => l.length - (intOf i).toNat)
 case atStart => exact ⟨0, Nat.zero_le _, rfl, by rw [madeCells_all _ (.int .i64 0) (by decide) (fun i hi => by match i, hi with | 0, _ => rfl)] at hown0; simpa [filledI, flatI] using hown0, hb0⟩
 case round =>
  obtain ⟨k, hkl, rfl, hown, hb⟩ := hrel
  clear hown0 hb0
  by_cases hlt : k < l.length
  ·have hal := ha (by omega)
   subst hal
   have d0 := (hb.cell (by exact cell_lt (hk k hlt))).trans (hk k hlt)
   have hat := flatI_at (filledI l k) k (by rw [filledI_length l k hkl]; exact hlt)
   have e0 := (hown.cellAt k (by omega)).trans hat
   have f0 := hown.frozenAt k
   have st := (hown.stored k (.int .i64 (iAt l k))).1
   rw [flatI_set, filledI_step l k hlt] at st
   generalize iAt (filledI l k) k = x0 at *
   have ST : Hid _ := st
   clear st hown hat hk hr
   go_wp2
   go_roundw
   case rel => exact ⟨k + 1, by omega, by go_num, ST.out, hb.setCell (Nat.le_refl _) _⟩
   case measure => simp [intOf]; omega
  ·go_wp2
   go_ret
   have hkk : k = l.length := by omega
   subst hkk
   rw [filledI_full] at hown
   exact ⟨_, rfl, hown, hb⟩

def ToTree (n : Nat) : Prop := ∀ (x : TV) (T : Tr) (w : World), TreeAt n w x T → sizeT n T ≤ 1048576 →
  Calls Try.prog 57 #[x.val] w fun e w' => ∃ y : TV, e = .returned y.val ∧ TreeOwn n w' w.heap.size y T ∧ Below w.heap.size w w'
def ToTreeS (n : Nat) : Prop := ∀ (v : Value) (ts : List Tr) (w : World), TreesAt n w v ts → sizeTs n ts ≤ 1048576 →
  Calls Try.prog 65 #[v] w fun e w' => ∃ v', e = .returned v' ∧ TreesOwn n w' w.heap.size v' ts ∧ Below w.heap.size w w'

theorem tvAt_set_eq (l : List TV) (y : TV) (k : Nat) (hk : k < l.length) : tvAt (l.set k y) k = y := by simp [tvAt, List.getD, hk]
theorem tvAt_set_ne (l : List TV) (y : TV) (k i : Nat) (h : k ≠ i) : tvAt (l.set k y) i = tvAt l i := by simp [tvAt, List.getD, h]
theorem flatT_zero (n : Nat) (i : Nat) : (flatT (List.replicate n noTV))[i]? = (if i < n * 5 then some (if i % 5 = 0 then .bool false else .slice none 0 0) else none) := by
 induction n generalizing i with
 | zero => simp [flatT]
 | succ n ih =>
  rw [List.replicate_succ, flatT_cons]
  match i with
  | 0 => simp [noTV]
  | 1 => simp [noTV]; omega
  | 2 => simp [noTV]; omega
  | 3 => simp [noTV]; omega
  | 4 => simp [noTV]; omega
  | i + 5 =>
   simp only [List.getElem?_cons_succ]
   rw [ih i, show (i + 5) % 5 = i % 5 by omega]
   by_cases h : i < n * 5
   ·rw [if_pos h, if_pos (show i + 5 < (n + 1) * 5 by omega)]
   ·rw [if_neg h, if_neg (show ¬ i + 5 < (n + 1) * 5 by omega)]
theorem madeCells_tree (n : Nat) : (madeCells #[.bool false, .slice none 0 0, .slice none 0 0, .slice none 0 0, .slice none 0 0] (n * 5)).toList = flatT (List.replicate n noTV) := by
 apply List.ext_getElem?
 intro j
 rw [flatT_zero]
 by_cases hj : j < n * 5
 ·rw [if_pos hj]
  simp only [madeCells]
  have : j % 5 = 0 ∨ j % 5 = 1 ∨ j % 5 = 2 ∨ j % 5 = 3 ∨ j % 5 = 4 := by omega
  rcases this with h | h | h | h | h <;> simp [hj, h]
 ·rw [if_neg hj]
  simp [madeCells, hj]
end
section
open Go.RowKit

theorem TreeOwn.setCell {n : Nat} {w : World} {base : Nat} {x : TV} {T : Tr} (h : TreeOwn n w base x T) {a : Addr} (ha : a.block < base) (u : Value) : TreeOwn n (w.setCell a u) base x T :=
 h.same fun g hg _ => Below.heap_setCell _ _ _ _ (by omega)

theorem TreeAt.shape : ∀ {n : Nat} {w : World} {x : TV} {T : Tr}, TreeAt n w x T → ∃ (a1 a2 a3 a4 : Option Addr) (c1 c2 c3 c4 : Nat), x = ⟨T.leaf, .slice a1 T.pairs.length c1, .slice a2 T.cuts.length c2, .slice a3 T.kids.length c3, .slice a4 T.buf.length c4⟩
 | 0, _, _, _, h => h.elim
 | _ + 1, _, ⟨lf, p, c, k, b⟩, T, ⟨h1, h2, h3, h4, xs, h5, h6, h7⟩ => by
  simp only at h1 h2 h3 h4 h6
  obtain ⟨a1, c1, rfl, _⟩ := h2.len
  obtain ⟨a2, c2, rfl, _⟩ := h3.len
  obtain ⟨a4, c4, rfl, _⟩ := h4.len
  obtain ⟨a3, c3, rfl, _⟩ := h6.len
  subst h1
  exact ⟨a1, a2, a3, a4, c1, c2, c3, c4, by rw [h5]⟩

theorem toTreeS_of {n : Nat} (H : ToTree n) : ToTreeS n := by
 intro v ts w hts hsz
 obtain ⟨xs, hxl, hrow, hk⟩ := hts
 obtain ⟨a, b, off, cap, rfl, hcap, hmax, ha, c0, c1, c2, c3, c4⟩ := hrow.trees
 obtain ⟨i0, hi, hz0, hz1, hz2⟩ := info_parts Try.info90
 unfold maxLen at hmax
 have XL : Hid (xs.length = ts.length) := hxl
 have hn : xs.length ≤ 1048576 := by unfold sizeTs at hsz; omega
 have SZ : Hid (∀ k, k < xs.length → sizeT n (ts.getD k noTr) ≤ 1048576) := by
  intro k hk
  have h1 := sumTo_succ n ts k (by omega)
  have h2 := sumTo_le n ts (k + 1)
  unfold sizeTs at hsz
  omega
 clear hxl hsz
 go_enter Try.func65, Try.ntmps65
 go_wp2_with (at_make; refine wpList_make_full _ rfl _ _ 87 rfl w.heap.size 90 i0 _ 5 Try.underlying87 hi hz0 hz1 .i64 .i64 _ _ xs.length rfl rfl rfl rfl ?c1 ?c2 ?c3 ?_)
 case c1 => rw [hz2]; omega
 case c2 => unfold maxLen; omega
 case c3 => exact Nat.le_refl _
 intro w0 hown0 hgrow0
 have hb0 : Below w.heap.size w w0 := (Below.refl _ _).grown hgrow0 (Nat.le_refl _) (fun k hk => by cases hk)
 clear hgrow0
 rw [show (madeCells _ (xs.length * 5)).toList = flatT (List.replicate xs.length noTV) from madeCells_tree xs.length] at hown0
 go_wp2
 go_loopw [4] (fun i wr => ∃ (k : Nat) (ys : List TV), k ≤ xs.length ∧ i = .int .i64 k ∧ Hid (ys.length = xs.length) ∧ Hid (wr.ownsRow w.heap.size 90 5 (.slice (some ⟨w.heap.size, 0, none⟩) xs.length xs.length) xs.length (flatT ys)) ∧ Hid (∀ i, i < k → TreeOwn n wr (w.heap.size + 1) (tvAt ys i) (ts.getD i noTr)) ∧ Below w.heap.size w wr)
  (fun i _ => xs.length - (intOf i).toNat)
 case atStart => exact ⟨0, List.replicate xs.length noTV, Nat.zero_le _, rfl, by show _ = _; simp, hown0, fun i hi => absurd hi (Nat.not_lt_zero _), hb0⟩
 case round =>
  obtain ⟨k, ys, hkl, rfl, YL, OWN, KS, hb⟩ := hrel
  clear hown0 hb0
  by_cases hlt : k < xs.length
  ·have hal := ha (by omega)
   subst hal
   have d0 := (hb.cell (by exact cell_lt (c0 k hlt))).trans (c0 k hlt)
   have d1 := (hb.cell (by exact cell_lt (c1 k hlt))).trans (c1 k hlt)
   have d2 := (hb.cell (by exact cell_lt (c2 k hlt))).trans (c2 k hlt)
   have d3 := (hb.cell (by exact cell_lt (c3 k hlt))).trans (c3 k hlt)
   have d4 := (hb.cell (by exact cell_lt (c4 k hlt))).trans (c4 k hlt)
   have T0 : Hid (TreeAt n wr (tvAt xs k) (ts.getD k noTr)) := (hk k hlt).below hb
   have S0 : Hid (sizeT n (ts.getD k noTr) ≤ 1048576) := SZ.out k hlt
   clear c0 c1 c2 c3 c4 hk hrow ha
   go_wp2_with fail
   refine (H (tvAt xs k) _ _ T0.out S0.out).mono ?_
   rintro e w1 ⟨y, rfl, own, hb1⟩
   obtain ⟨a1, a2, a3, a4, q1, q2, q3, q4, hy⟩ := own.treeAt.shape
   generalize (ts.getD k noTr).leaf = m0, (ts.getD k noTr).pairs.length = m1, (ts.getD k noTr).cuts.length = m2, (ts.getD k noTr).kids.length = m3, (ts.getD k noTr).buf.length = m4 at hy
   have own1 := owns_below OWN.out hb1
   have hwr : w.heap.size + 1 ≤ wr.heap.size := by
    have := (Row.of_owns OWN.out)
    obtain ⟨_, h | ⟨g, cap', cur, hg, _, hh, _⟩⟩ := OWN.out
    ·cases h.1
    ·cases hg
     exact (Array.getElem?_eq_some_iff.1 hh).1
   have hat := flatT_at ys k (by have := YL.out; omega)
   have e0 := (own1.cellAt (k * 5) (by omega)).trans hat.1
   have e1 := (own1.cellAt (k * 5 + 1) (by omega)).trans hat.2.1
   have e2 := (own1.cellAt (k * 5 + 2) (by omega)).trans hat.2.2.1
   have e3 := (own1.cellAt (k * 5 + 3) (by omega)).trans hat.2.2.2.1
   have e4 := (own1.cellAt (k * 5 + 4) (by omega)).trans hat.2.2.2.2
   have f0 := own1.frozenAt (k * 5)
   have f1 := own1.frozenAt (k * 5 + 1)
   have f2 := own1.frozenAt (k * 5 + 2)
   have f3 := own1.frozenAt (k * 5 + 3)
   have f4 := own1.frozenAt (k * 5 + 4)
   have st := (((((own1.stored (k * 5) (.bool y.lf)).1.stored (k * 5 + 1) y.p).1.stored (k * 5 + 2) y.c).1.stored (k * 5 + 3) y.k).1.stored (k * 5 + 4) y.b).1
   rw [flatT_set _ _ k (by have := YL.out; omega)] at st
   have hb2 : Below w.heap.size w w1 := hb.trans (hb1.mono hb.size)
   have KS2 : Hid (∀ i, i < k + 1 → TreeOwn n w1 (w.heap.size + 1) (tvAt (ys.set k y) i) (ts.getD i noTr)) := by
    intro i hi
    by_cases hik : i < k
    ·rw [tvAt_set_ne _ _ _ _ (by omega)]
     exact (KS.out i hik).below hb1
    ·have : i = k := by omega
     subst this
     rw [tvAt_set_eq _ _ _ (by have := YL.out; omega)]
     exact own.low hwr
   have YL2 : Hid ((ys.set k y).length = xs.length) := by
    have := YL.out
    show _ = _
    simpa using this
   have ST : Hid _ := st
   generalize tvAt ys k = z at *
   subst hy
   clear st OWN hb1 d0 d1 d2 d3 d4 own1 own hat KS T0 S0 YL hwr
   go_wp2
   go_roundw
   case rel => exact ⟨k + 1, _, by omega, by go_num, YL2, ST.out, fun i hi => (((((KS2.out i hi).setCell (Nat.lt_succ_self _) _).setCell (Nat.lt_succ_self _) _).setCell (Nat.lt_succ_self _) _).setCell (Nat.lt_succ_self _) _).setCell (Nat.lt_succ_self _) _, ((((hb2.setCell (Nat.le_refl _) _).setCell (Nat.le_refl _) _).setCell (Nat.le_refl _) _).setCell (Nat.le_refl _) _).setCell (Nat.le_refl _) _⟩
   case measure => simp [intOf]; omega
  ·clear c0 c1 c2 c3 c4 hk hrow ha
   go_wp2
   go_ret
   have hkk : k = xs.length := by omega
   subst hkk
   refine ⟨_, rfl, ⟨ys, by rw [YL.out, XL.out], by rw [YL.out]; exact OWN.out, fun i hi => (KS.out i (by rw [← YL.out]; exact hi)).low (Nat.le_succ _)⟩, hb⟩

theorem TreesOwn.slice {n : Nat} {w : World} {base : Nat} {v : Value} {ts : List Tr} (h : TreesOwn n w base v ts) : ∃ (a : Option Addr) (m q : Nat), v = .slice a m q := by
 obtain ⟨xs, _, h6, _⟩ := h
 obtain ⟨a, q, e, _⟩ := (Row.of_owns h6).len
 exact ⟨a, _, q, e⟩
theorem TreesOwn.setCell {n : Nat} {w : World} {base : Nat} {v : Value} {ts : List Tr} (h : TreesOwn n w base v ts) {a : Addr} (ha : a.block < base) (u : Value) : TreesOwn n (w.setCell a u) base v ts := by
 obtain ⟨xs, h5, h6, h7⟩ := h
 exact ⟨xs, h5, ownsRow_setCell_below h6 ha u, fun i hi => (h7 i hi).setCell ha u⟩

structure OutAt (u : World) (B : Nat) (A Z O : Array Value) : Prop where
 h0 : u.heap[B]? = some (.cells A 74 (0, 0))
 h1 : u.heap[B + 1]? = some (.cells Z 90 (0, 0))
 h2 : u.heap[B + 1 + 1]? = some (.cells O 90 (0, 0))
theorem OutAt.size {u : World} {B : Nat} {A Z O : Array Value} (h : OutAt u B A Z O) : B + 3 ≤ u.heap.size := by
 have := (Array.getElem?_eq_some_iff.1 h.h2).1
 omega
theorem OutAt.step {u w' : World} {B : Nat} {A Z O : Array Value} (h : OutAt u B A Z O) (hb : Below u.heap.size u w') : OutAt w' B A Z O := by
 have hs := h.size
 exact ⟨(hb.block _ (by omega)).trans h.h0, (hb.block _ (by omega)).trans h.h1, (hb.block _ (by omega)).trans h.h2⟩
theorem OutAt.set {u : World} {B : Nat} {A Z O : Array Value} (h : OutAt u B A Z O) (j : Nat) (v : Value) : OutAt (u.setCell ⟨B + 1 + 1, j, none⟩ v) B A Z (O.setIfInBounds j v) := by
 refine ⟨?_, ?_, heap_setCell_same u (B + 1 + 1) j O 90 v h.h2⟩
 ·rw [Below.heap_setCell _ _ _ _ (by show B ≠ B + 1 + 1; omega)]; exact h.h0
 ·rw [Below.heap_setCell _ _ _ _ (by show B + 1 ≠ B + 1 + 1; omega)]; exact h.h1
theorem OutAt.cells {u : World} {B : Nat} {A Z O : Array Value} (h : OutAt u B A Z O) : (∀ j, u.cell? ⟨B, j, none⟩ = A[j]?) ∧ (∀ j, u.cell? ⟨B + 1, j, none⟩ = Z[j]?) ∧ (∀ j, u.cell? ⟨B + 1 + 1, j, none⟩ = O[j]?) ∧ (∀ j, u.frozen? ⟨B + 1, j, none⟩ = false) ∧ (∀ j, u.frozen? ⟨B + 1 + 1, j, none⟩ = false) :=
 ⟨fun j => cell_of_row u B j A 74 (0, 0) h.h0, fun j => cell_of_row u (B + 1) j Z 90 (0, 0) h.h1, fun j => cell_of_row u (B + 1 + 1) j O 90 (0, 0) h.h2, fun j => frozen_of_row u (B + 1) j Z 90 h.h1, fun j => frozen_of_row u (B + 1 + 1) j O 90 h.h2⟩
theorem OutAt.start (w : World) (A Z O : Array Value) : OutAt (((w.alloc (.cells A 74)).alloc (.cells Z 90)).alloc (.cells O 90)) w.heap.size A Z O := by
 have e : ∀ (x : World) (o : Obj), (x.alloc o).heap.size = x.heap.size + 1 := fun x o => by simp
 have k1 : ∀ (x : World) (o : Obj) (g : Nat), g < x.heap.size → (x.alloc o).heap[g]? = x.heap[g]? := fun x o g hg => ((Below.refl x.heap.size x).alloc (Nat.le_refl _) o).block g hg
 refine ⟨?_, ?_, ?_⟩
 ·rw [k1 _ _ _ (by rw [e, e]; omega), k1 _ _ _ (by rw [e]; omega)]; exact heap_alloc_new w _
 ·rw [k1 _ _ _ (by rw [e, e]; omega), ← e w (.cells A 74)]; exact heap_alloc_new _ _
 ·rw [show w.heap.size + 1 + 1 = ((w.alloc (.cells A 74)).alloc (.cells Z 90)).heap.size by rw [e, e]]; exact heap_alloc_new _ _

theorem toTree_of {n : Nat} (H : ToTreeS n) : ToTree (n + 1) := by
 intro x T w ht hsz
 obtain ⟨lf, p, c, k, b⟩ := x
 obtain ⟨hlf, hp, hc, hb, hk⟩ := ht.parts
 simp only at hlf hp hc hb hk
 have hS : sizeT (n + 1) T = T.pairs.length + (T.cuts.length + (sizeTs n T.kids + T.buf.length)) := rfl
 have s1 : T.pairs.length ≤ 1048576 := by omega
 have s2 : T.cuts.length ≤ 1048576 := by omega
 have s3 : sizeTs n T.kids ≤ 1048576 := by omega
 have s4 : T.buf.length ≤ 1048576 := by omega
 have R1 : Hid (Row w p T.pairs.length (flatP T.pairs)) := hp
 have R2 : Hid (Row w c T.cuts.length (flatI T.cuts)) := hc
 have R3 : Hid (TreesAt n w k T.kids) := hk
 have R4 : Hid (Row w b T.buf.length (flatM T.buf)) := hb
 have LF : Hid (lf = T.leaf) := hlf
 clear hp hc hb hk ht hlf hS hsz
 have st0 : Hid (OutAt _ w.heap.size _ _ _) := OutAt.start w #[.bool lf, p, c, k, b] #[.bool false, .slice none 0 0, .slice none 0 0, .slice none 0 0, .slice none 0 0] #[.bool lf, .slice none 0 0, .slice none 0 0, .slice none 0 0, .slice none 0 0]
 have bo0 : Hid (Below w.heap.size w (((w.alloc (.cells #[.bool lf, p, c, k, b] 74)).alloc (.cells #[.bool false, .slice none 0 0, .slice none 0 0, .slice none 0 0, .slice none 0 0] 90)).alloc (.cells #[.bool lf, .slice none 0 0, .slice none 0 0, .slice none 0 0, .slice none 0 0] 90))) :=
  (((Below.refl _ _).alloc (Nat.le_refl _) _).alloc (by simp) _).alloc (by simp; omega) _
 show Calls Try.prog 57 #[.agg #[.bool lf, p, c, k, b]] w _
 go_enter Try.func57, Try.ntmps57
 go_wp2_with fail
 refine (toPairS_any _ T.pairs _ (R1.out.below bo0.out) s1).mono ?_
 rintro e w1 ⟨v1, rfl, own1, hb1⟩
 have B1 : Hid (Below w.heap.size w w1) := Below.and bo0.out hb1
 have S1 : Hid (OutAt w1 w.heap.size #[.bool lf, p, c, k, b] #[.bool false, .slice none 0 0, .slice none 0 0, .slice none 0 0, .slice none 0 0] #[.bool lf, .slice none 0 0, .slice none 0 0, .slice none 0 0, .slice none 0 0]) := st0.out.step hb1
 have O1 : Hid (w1.ownsRow (w.heap.size + 3) 152 2 v1 T.pairs.length (flatP T.pairs)) := owns_mono own1 st0.out.size
 obtain ⟨a1, q1, rfl, _⟩ := (Row.of_owns own1).len
 obtain ⟨k0, k1, k2, k3, k4⟩ := S1.out.cells
 clear hb1 own1 bo0 st0
 go_wp2_with fail
 have B1' := B1.out.setCell (p := ⟨w.heap.size + 1 + 1, 1, none⟩) (by show w.heap.size ≤ w.heap.size + 1 + 1; omega) (.slice a1 T.pairs.length q1)
 have S1' := S1.out.set 1 (.slice a1 T.pairs.length q1)
 refine (toIntS_any _ T.cuts _ (R2.out.below B1') s2).mono ?_
 rintro e w2 ⟨v2, rfl, own2, hb2⟩
 have B2 : Hid (Below w.heap.size w w2) := Below.and B1' hb2
 have S2 : Hid (OutAt w2 w.heap.size #[.bool lf, p, c, k, b] #[.bool false, .slice none 0 0, .slice none 0 0, .slice none 0 0, .slice none 0 0] #[.bool lf, .slice a1 T.pairs.length q1, .slice none 0 0, .slice none 0 0, .slice none 0 0]) := S1'.step hb2
 have O2 : Hid (w2.ownsRow (w.heap.size + 3) 3 1 v2 T.cuts.length (flatI T.cuts)) := owns_mono own2 S1'.size
 have O1' : Hid (w2.ownsRow (w.heap.size + 3) 152 2 (.slice a1 T.pairs.length q1) T.pairs.length (flatP T.pairs)) := owns_below (ownsRow_setCell_below O1.out (a := ⟨w.heap.size + 1 + 1, 1, none⟩) (by show w.heap.size + 1 + 1 < w.heap.size + 3; omega) _) hb2
 obtain ⟨a2, q2, rfl, _⟩ := (Row.of_owns own2).len
 clear hb2 own2 B1 B1' S1 S1' O1 k0 k1 k2 k3 k4
 obtain ⟨k0, k1, k2, k3, k4⟩ := S2.out.cells
 go_wp2_with fail
 have B2' := B2.out.setCell (p := ⟨w.heap.size + 1 + 1, 2, none⟩) (by show w.heap.size ≤ w.heap.size + 1 + 1; omega) (.slice a2 T.cuts.length q2)
 have S2' := S2.out.set 2 (.slice a2 T.cuts.length q2)
 refine (H _ T.kids _ (R3.out.below B2') s3).mono ?_
 rintro e w3 ⟨v3, rfl, own3, hb3⟩
 have B3 : Hid (Below w.heap.size w w3) := Below.and B2' hb3
 have S3 : Hid (OutAt w3 w.heap.size #[.bool lf, p, c, k, b] #[.bool false, .slice none 0 0, .slice none 0 0, .slice none 0 0, .slice none 0 0] #[.bool lf, .slice a1 T.pairs.length q1, .slice a2 T.cuts.length q2, .slice none 0 0, .slice none 0 0]) := S2'.step hb3
 have O3 : Hid (TreesOwn n w3 (w.heap.size + 3) v3 T.kids) := own3.low S2'.size
 have O1 : Hid (w3.ownsRow (w.heap.size + 3) 152 2 (.slice a1 T.pairs.length q1) T.pairs.length (flatP T.pairs)) := owns_below (ownsRow_setCell_below O1'.out (a := ⟨w.heap.size + 1 + 1, 2, none⟩) (by show w.heap.size + 1 + 1 < w.heap.size + 3; omega) _) hb3
 have O2' : Hid (w3.ownsRow (w.heap.size + 3) 3 1 (.slice a2 T.cuts.length q2) T.cuts.length (flatI T.cuts)) := owns_below (ownsRow_setCell_below O2.out (a := ⟨w.heap.size + 1 + 1, 2, none⟩) (by show w.heap.size + 1 + 1 < w.heap.size + 3; omega) _) hb3
 obtain ⟨a3, m3, q3, rfl⟩ := own3.slice
 clear hb3 own3 B2 B2' S2 S2' O1' O2 k0 k1 k2 k3 k4
 obtain ⟨k0, k1, k2, k3, k4⟩ := S3.out.cells
 go_wp2_with fail
 have B3' := B3.out.setCell (p := ⟨w.heap.size + 1 + 1, 3, none⟩) (by show w.heap.size ≤ w.heap.size + 1 + 1; omega) (.slice a3 m3 q3)
 have S3' := S3.out.set 3 (.slice a3 m3 q3)
 refine (toMsgS_any _ T.buf _ (R4.out.below B3') s4).mono ?_
 rintro e w4 ⟨v4, rfl, own4, hb4⟩
 have B4 : Hid (Below w.heap.size w w4) := Below.and B3' hb4
 have S4 : Hid (OutAt w4 w.heap.size #[.bool lf, p, c, k, b] #[.bool false, .slice none 0 0, .slice none 0 0, .slice none 0 0, .slice none 0 0] #[.bool lf, .slice a1 T.pairs.length q1, .slice a2 T.cuts.length q2, .slice a3 m3 q3, .slice none 0 0]) := S3'.step hb4
 have O4 : Hid (w4.ownsRow (w.heap.size + 3) 47 3 v4 T.buf.length (flatM T.buf)) := owns_mono own4 S3'.size
 have O1' : Hid (w4.ownsRow (w.heap.size + 3) 152 2 (.slice a1 T.pairs.length q1) T.pairs.length (flatP T.pairs)) := owns_below (ownsRow_setCell_below O1.out (a := ⟨w.heap.size + 1 + 1, 3, none⟩) (by show w.heap.size + 1 + 1 < w.heap.size + 3; omega) _) hb4
 have O2 : Hid (w4.ownsRow (w.heap.size + 3) 3 1 (.slice a2 T.cuts.length q2) T.cuts.length (flatI T.cuts)) := owns_below (ownsRow_setCell_below O2'.out (a := ⟨w.heap.size + 1 + 1, 3, none⟩) (by show w.heap.size + 1 + 1 < w.heap.size + 3; omega) _) hb4
 have O3' : Hid (TreesOwn n w4 (w.heap.size + 3) (.slice a3 m3 q3) T.kids) := (O3.out.setCell (a := ⟨w.heap.size + 1 + 1, 3, none⟩) (by show w.heap.size + 1 + 1 < w.heap.size + 3; omega) _).below hb4
 obtain ⟨a4, q4, rfl, _⟩ := (Row.of_owns own4).len
 clear hb4 own4 B3 B3' S3 S3' O1 O2' O3 k0 k1 k2 k3 k4
 obtain ⟨k0, k1, k2, k3, k4⟩ := S4.out.cells
 go_wp2
 refine bodyPost_ret (v := .agg #[.bool lf, .slice a1 T.pairs.length q1, .slice a2 T.cuts.length q2, .slice a3 m3 q3, .slice a4 T.buf.length q4]) (by simp [results, Try.results57, go_sem, k1]) rfl ⟨⟨lf, .slice a1 T.pairs.length q1, .slice a2 T.cuts.length q2, .slice a3 m3 q3, .slice a4 T.buf.length q4⟩, rfl, ?_, ?_⟩
 ·have hT : TreeOwn (n + 1) w4 (w.heap.size + 3) ⟨lf, .slice a1 T.pairs.length q1, .slice a2 T.cuts.length q2, .slice a3 m3 q3, .slice a4 T.buf.length q4⟩ T := TreeOwn.mk LF.out O1'.out O2.out O4.out O3'.out
  refine TreeOwn.low (base := w.heap.size + 3) ?_ (by omega)
  repeat (refine TreeOwn.setCell ?_ (by simp only []; omega) _)
  exact hT
 ·repeat (refine Below.setCell ?_ (by simp only []; omega) _)
  exact B4.out

theorem toTree_any : ∀ n, ToTree n
 | 0 => fun _ _ _ h => h.elim
 | n + 1 => toTree_of (toTreeS_of (toTree_any n))
end
section
open Go.RowKit

structure MacV where
 x : TV
 v : Value
abbrev MacV.arr (m : MacV) : Array Value := #[.bool m.x.lf, m.x.p, m.x.c, m.x.k, m.x.b, m.v]
abbrev MacV.val (m : MacV) : Value := .agg #[.bool m.x.lf, m.x.p, m.x.c, m.x.k, m.x.b, m.v]
def MacAt (n : Nat) (w : World) (m : MacV) (T : Tr) (l : DL) : Prop := TreeAt n w m.x T ∧ Row w m.v l.length (flatD l)
theorem MacAt.below {n : Nat} {w w' : World} {m : MacV} {T : Tr} {l : DL} (h : MacAt n w m T l) (hb : Below w.heap.size w w') : MacAt n w' m T l := ⟨h.1.below hb, h.2.below hb⟩
theorem szMachine_any (n : Nat) (m : MacV) (T : Tr) (l : DL) (left : Int) (w : World) (h : MacAt n w m T l) (h0 : 0 ≤ left) (h1 : left ≤ 1048576) :
  Calls Try.prog 40 #[m.val, .int .i64 left] w fun e w' => e = .returned (.int .i64 (leftOf left (sizeT n T + l.length))) ∧ Below w.heap.size w w' := by
 obtain ⟨a5, c5, hv, hle⟩ := h.2.len
 obtain ⟨⟨lf, p, c, k, b⟩, v⟩ := m
 simp only at hv
 subst hv
 have H : Hid _ := h.1
 have N1 : Hid (MBox 76 (w.alloc (.cells #[.bool lf, p, c, k, b, .slice a5 l.length c5] 76)) w.heap.size #[.bool lf, p, c, k, b, .slice a5 l.length c5]) := MBox.start _ w _
 have B1 : Hid (Below w.heap.size w (w.alloc (.cells #[.bool lf, p, c, k, b, .slice a5 l.length c5] 76))) := bel_nw _ _
 have S1 : Hid (∀ w0, Below w.heap.size w w0 → Calls Try.prog 56 #[.agg #[.bool lf, p, c, k, b], .int .i64 left] w0 fun e w' => e = .returned (.int .i64 (leftOf left (sizeT n T))) ∧ Below w0.heap.size w0 w') := fun w0 hb => szTree_any n ⟨lf, p, c, k, b⟩ T left w0 (H.out.below hb) h0 h1
 have c1 := N1.out.cells
 clear h H
 show Calls Try.prog 40 #[.agg #[.bool lf, p, c, k, b, .slice a5 l.length c5], .int .i64 left] w _
 by_cases hs : (sizeT n T : Int) ≤ left
 ·have hs' : leftOf left (sizeT n T) = left - sizeT n T := leftOf_yes hs
  have hs2 : Hid (leftOf left (sizeT n T + l.length) = if (l.length : Int) ≤ left - sizeT n T then left - sizeT n T - l.length else -1) := by
   show _ = _
   unfold leftOf
   split <;> split <;> omega
  rw [hs'] at S1
  clear hs'
  rw [hs2.out]
  generalize sizeT n T = sz at *
  go_enter Try.func40, Try.ntmps40
  go_wp2_with fail
  generalize w.alloc (.cells #[.bool lf, p, c, k, b, .slice a5 l.length c5] 76) = W at *
  refine Calls.mono (S1.out _ B1.out) ?_
  rintro e w1 ⟨rfl, b1⟩
  have B3 : Hid (Below w.heap.size w w1) := Below.and B1.out b1
  have N3 : Hid (MBox 76 w1 w.heap.size #[.bool lf, p, c, k, b, .slice a5 l.length c5]) := N1.out.step b1
  clear c1 N1 B1 b1
  have c1 := N3.out.cells
  have hnn : ¬ (left - (sz : Int) < 0) := by omega
  go_wp2_with fail
  refine Calls.mono (szDoneS_any a5 l.length c5 _ hle (by omega) (by omega) _) ?_
  rintro e w2 ⟨rfl, rfl⟩
  by_cases hd : (l.length : Int) ≤ left - sz
  ·rw [if_pos hd]
   have hn2 : ¬ (left - (sz : Int) - (l.length : Int) < 0) := by omega
   go_wp2
   go_ret
   exact ⟨rfl, B3.out⟩
  ·rw [if_neg hd]
   go_wp2
   go_ret
   exact ⟨rfl, B3.out⟩
 ·have hs' : leftOf left (sizeT n T) = -1 := leftOf_no hs
  have hs2 : Hid (leftOf left (sizeT n T + l.length) = -1) := leftOf_no (by omega)
  rw [hs'] at S1
  rw [hs2.out]
  go_enter Try.func40, Try.ntmps40
  go_wp2_with fail
  generalize w.alloc (.cells #[.bool lf, p, c, k, b, .slice a5 l.length c5] 76) = W at *
  refine Calls.mono (S1.out _ B1.out) ?_
  rintro e w1 ⟨rfl, b1⟩
  go_wp2
  go_ret
  exact ⟨rfl, Below.and B1.out b1⟩

theorem eqMachine_any (n : Nat) (m m2 : MacV) (T : Tr) (l : DL) (w : World) (h : MacAt n w m T l) (h2 : MacAt n w m2 T l) :
  Calls Try.prog 51 #[m.val, m2.val] w fun e w' => e = .returned (.bool true) ∧ Below w.heap.size w w' := by
 obtain ⟨⟨lf, p, c, k, b⟩, v⟩ := m
 obtain ⟨⟨lf2, p2, c2, k2, b2⟩, v2⟩ := m2
 have H : Hid _ := And.intro h h2
 have N1 : Hid (MBox 92 (w.alloc (.cells #[.bool lf, p, c, k, b, v] 92)) w.heap.size #[.bool lf, p, c, k, b, v]) := MBox.start _ w _
 have N2 : Hid (MBox 92 ((w.alloc (.cells #[.bool lf, p, c, k, b, v] 92)).alloc (.cells #[.bool lf2, p2, c2, k2, b2, v2] 92)) (w.alloc (.cells #[.bool lf, p, c, k, b, v] 92)).heap.size #[.bool lf2, p2, c2, k2, b2, v2]) := MBox.start _ _ _
 have N1b : Hid (MBox 92 ((w.alloc (.cells #[.bool lf, p, c, k, b, v] 92)).alloc (.cells #[.bool lf2, p2, c2, k2, b2, v2] 92)) w.heap.size #[.bool lf, p, c, k, b, v]) := N1.out.step (bel_nw _ _)
 have B2 : Hid (Below w.heap.size w ((w.alloc (.cells #[.bool lf, p, c, k, b, v] 92)).alloc (.cells #[.bool lf2, p2, c2, k2, b2, v2] 92))) := Below.and (bel_nw _ _) (bel_nw _ _)
 have e1 : (w.alloc (.cells #[.bool lf, p, c, k, b, v] 92)).heap.size = w.heap.size + 1 := by simp
 rw [e1] at N2
 have c1 := N1b.out.cells
 have d1 := N2.out.cells
 clear N1 e1 h h2
 show Calls Try.prog 51 #[.agg #[.bool lf, p, c, k, b, v], .agg #[.bool lf2, p2, c2, k2, b2, v2]] w _
 go_enter Try.func51, Try.ntmps51
 go_wp2_with fail
 generalize (w.alloc (.cells #[.bool lf, p, c, k, b, v] 92)).alloc (.cells #[.bool lf2, p2, c2, k2, b2, v2] 92) = W at *
 refine Calls.mono (eqTree_any n ⟨lf, p, c, k, b⟩ ⟨lf2, p2, c2, k2, b2⟩ T W (H.out.1.1.below B2.out) (H.out.2.1.below B2.out)) ?_
 rintro e w1 ⟨rfl, b1⟩
 have B3 : Hid (Below w.heap.size w w1) := Below.and B2.out b1
 have N3 : Hid (MBox 92 w1 w.heap.size #[.bool lf, p, c, k, b, v]) := N1b.out.step b1
 have N4 : Hid (MBox 92 w1 (w.heap.size + 1) #[.bool lf2, p2, c2, k2, b2, v2]) := N2.out.step b1
 clear c1 d1 N1b N2 B2 b1
 have c1 := N3.out.cells
 have d1 := N4.out.cells
 go_wp2_with fail
 refine Calls.mono (eqDoneS_any v v2 l l w1 (H.out.1.2.below B3.out) (H.out.2.2.below B3.out)) ?_
 rintro e w2 ⟨rfl, b2⟩
 rw [decide_eq_true rfl]
 go_wp2
 go_ret
 exact ⟨rfl, Below.and B3.out b2⟩
end
end Go.Proofs.Ythfmifdpldmbaaa
