/-
  Trees that own their memory; contracts of the laws' own functions that copy a tree.
-/
import Derived.Test.YtmoaccohnmkleaaTree
namespace Go.Proofs.Ytmoaccohnmkleaa
open Go.RowKit

/-- THE STRUCT x LEADS TO THE TREE T, in rows of its own, all of them from the block `base` on. -/
def TreeOwn : Nat → World → Nat → TV → Tr → Prop
  | 0, _, _, _, _ => False
  | n + 1, w, base, x, T => x.lf = T.leaf ∧ w.ownsRow base 74 2 x.p T.pairs.length (flatP T.pairs) ∧ w.ownsRow base 3 1 x.c T.cuts.length (flatI T.cuts) ∧ w.ownsRow base 78 3 x.b T.buf.length (flatM T.buf) ∧
      ∃ xs : List TV, xs.length = T.kids.length ∧ w.ownsRow base 37 5 x.k xs.length (flatT xs) ∧ ∀ i, i < xs.length → TreeOwn n w base (tvAt xs i) (kidT T i)

theorem owns_same {w w' : World} {base e size n : Nat} {v : Value} {xs : List Value} (h : w.ownsRow base e size v n xs) (hb : ∀ g, base ≤ g → g < w.heap.size → w'.heap[g]? = w.heap[g]?) : w'.ownsRow base e size v n xs := by
  obtain ⟨hl, h | ⟨g, cap, cur, rfl, hg, hh, hn, hcap, hsz, htake⟩⟩ := h
  · exact ⟨hl, .inl h⟩
  · refine ⟨hl, .inr ⟨g, cap, cur, rfl, hg, ?_, hn, hcap, hsz, htake⟩⟩
    rw [hb g hg (Array.getElem?_eq_some_iff.1 hh).1]
    exact hh
theorem TreeOwn.same : ∀ {n : Nat} {w w' : World} {base : Nat} {x : TV} {T : Tr}, TreeOwn n w base x T → (∀ g, base ≤ g → g < w.heap.size → w'.heap[g]? = w.heap[g]?) → TreeOwn n w' base x T
  | 0, _, _, _, _, _, h, _ => h
  | _ + 1, _, _, _, _, _, ⟨h1, h2, h3, h4, xs, h5, h6, h7⟩, hb => ⟨h1, owns_same h2 hb, owns_same h3 hb, owns_same h4 hb, xs, h5, owns_same h6 hb, fun i hi => (h7 i hi).same hb⟩
theorem TreeOwn.below {n : Nat} {w w' : World} {base : Nat} {x : TV} {T : Tr} (h : TreeOwn n w base x T) (hb : Below w.heap.size w w') : TreeOwn n w' base x T :=
  h.same fun g _ hg => hb.block g hg
theorem TreeOwn.low : ∀ {n : Nat} {w : World} {base base' : Nat} {x : TV} {T : Tr}, TreeOwn n w base x T → base' ≤ base → TreeOwn n w base' x T
  | 0, _, _, _, _, _, h, _ => h
  | _ + 1, _, _, _, _, _, ⟨h1, h2, h3, h4, xs, h5, h6, h7⟩, hb => ⟨h1, owns_mono h2 hb, owns_mono h3 hb, owns_mono h4 hb, xs, h5, owns_mono h6 hb, fun i hi => (h7 i hi).low hb⟩
theorem TreeOwn.treeAt : ∀ {n : Nat} {w : World} {base : Nat} {x : TV} {T : Tr}, TreeOwn n w base x T → TreeAt n w x T
  | 0, _, _, _, _, h => h
  | _ + 1, _, _, _, _, ⟨h1, h2, h3, h4, xs, h5, h6, h7⟩ => ⟨h1, Row.of_owns h2, Row.of_owns h3, Row.of_owns h4, xs, h5, Row.of_owns h6, fun i hi => (h7 i hi).treeAt⟩
def TreesOwn (n : Nat) (w : World) (base : Nat) (v : Value) (ts : List Tr) : Prop :=
  ∃ xs : List TV, xs.length = ts.length ∧ w.ownsRow base 37 5 v xs.length (flatT xs) ∧ ∀ i, i < xs.length → TreeOwn n w base (tvAt xs i) (ts.getD i noTr)
theorem TreesOwn.below {n : Nat} {w w' : World} {base : Nat} {v : Value} {ts : List Tr} (h : TreesOwn n w base v ts) (hb : Below w.heap.size w w') : TreesOwn n w' base v ts := by
  obtain ⟨xs, h5, h6, h7⟩ := h
  exact ⟨xs, h5, owns_below h6 hb, fun i hi => (h7 i hi).below hb⟩
theorem TreesOwn.low {n : Nat} {w : World} {base base' : Nat} {v : Value} {ts : List Tr} (h : TreesOwn n w base v ts) (hb : base' ≤ base) : TreesOwn n w base' v ts := by
  obtain ⟨xs, h5, h6, h7⟩ := h
  exact ⟨xs, h5, owns_mono h6 hb, fun i hi => (h7 i hi).low hb⟩
theorem TreeOwn.mk {n : Nat} {w : World} {base : Nat} {x : TV} {T : Tr} (h1 : x.lf = T.leaf) (h2 : w.ownsRow base 74 2 x.p T.pairs.length (flatP T.pairs)) (h3 : w.ownsRow base 3 1 x.c T.cuts.length (flatI T.cuts)) (h4 : w.ownsRow base 78 3 x.b T.buf.length (flatM T.buf)) (h5 : TreesOwn n w base x.k T.kids) : TreeOwn (n + 1) w base x T := by
  obtain ⟨xs, h5, h6, h7⟩ := h5
  exact ⟨h1, h2, h3, h4, xs, h5, h6, h7⟩
theorem TreeOwn.parts {n : Nat} {w : World} {base : Nat} {x : TV} {T : Tr} (h : TreeOwn (n + 1) w base x T) : x.lf = T.leaf ∧ w.ownsRow base 74 2 x.p T.pairs.length (flatP T.pairs) ∧ w.ownsRow base 3 1 x.c T.cuts.length (flatI T.cuts) ∧ w.ownsRow base 78 3 x.b T.buf.length (flatM T.buf) ∧ TreesOwn n w base x.k T.kids := by
  obtain ⟨h1, h2, h3, h4, xs, h5, h6, h7⟩ := h
  exact ⟨h1, h2, h3, h4, xs, h5, h6, h7⟩

theorem Try.info3 : (Try.prog.info? 3).map (fun i => (i.zero, i.size, i.bytes)) = some (some (.int .i64 0), 1, 8) := by kernel_rfl
theorem Try.info37 : (Try.prog.info? 37).map (fun i => (i.zero, i.size, i.bytes)) = some (some (.agg #[.bool false, .slice none 0 0, .slice none 0 0, .slice none 0 0, .slice none 0 0]), 5, 104) := by kernel_rfl

def filledI (l : List Int) (k : Nat) : List Int := l.take k ++ List.replicate (l.length - k) 0
theorem filledI_length (l : List Int) (k : Nat) (hk : k ≤ l.length) : (filledI l k).length = l.length := by simp [filledI]; omega
theorem filledI_full (l : List Int) : filledI l l.length = l := by simp [filledI]
theorem filledI_step (l : List Int) (k : Nat) (hk : k < l.length) : (filledI l k).set k (iAt l k) = filledI l (k + 1) := by
  obtain ⟨m, hm⟩ : ∃ m, l.length - k = m + 1 := ⟨l.length - k - 1, by omega⟩
  have e : iAt l k = l[k] := by simp [iAt, List.getD, hk]
  rw [filledI, filledI, List.take_succ_eq_append_getElem hk, hm, show l.length - (k + 1) = m by omega, List.replicate_succ, List.set_append_right _ _ (by simp; omega), e, List.append_assoc]
  simp only [List.length_take, show min k l.length = k by omega, Nat.sub_self, List.set_cons_zero, List.singleton_append]
theorem flatI_set (l : List Int) (i : Nat) (x : Int) : (flatI l).set i (.int .i64 x) = flatI (l.set i x) := by simp [flatI, List.map_set]

set_option maxHeartbeats 1000000 in
theorem toIntS_any (v : Value) (l : List Int) (w : World) (hr : Row w v l.length (flatI l)) (hn : l.length ≤ 1048576) :
    Calls Try.prog 26 #[v] w fun e w' => ∃ v', e = .returned v' ∧ w'.ownsRow w.heap.size 3 1 v' l.length (flatI l) ∧ Below w.heap.size w w' := by
  obtain ⟨a, b, off, cap, rfl, hcap, hmax, ha, hk⟩ := hr.ints
  obtain ⟨i0, hi, hz0, hz1, hz2⟩ := info_parts Try.info3
  unfold maxLen at hmax
  go_enter Try.func26, Try.ntmps26
  go_wp2_with (at_make; refine wpList_make_full _ rfl _ _ 23 rfl w.heap.size 3 i0 _ 1 Try.underlying23 hi hz0 hz1 .i64 .i64 _ _ l.length rfl rfl rfl rfl ?c1 ?c2 ?c3 ?_)
  case c1 => rw [hz2]; omega
  case c2 => unfold maxLen; omega
  case c3 => exact Nat.le_refl _
  intro w0 hown0 hgrow0
  have hb0 : Below w.heap.size w w0 := (Below.refl _ _).grown hgrow0 (Nat.le_refl _) (fun k hk => by cases hk)
  clear hgrow0
  go_wp2
  go_loopw [4] (fun i wr => ∃ k : Nat, k ≤ l.length ∧ i = .int .i64 k ∧ wr.ownsRow w.heap.size 3 1 (.slice (some ⟨w.heap.size, 0, none⟩) l.length l.length) l.length (flatI (filledI l k)) ∧ Below w.heap.size w wr)
    (fun i _ => l.length - (intOf i).toNat)
  case atStart => exact ⟨0, Nat.zero_le _, rfl, by rw [madeCells_all _ (.int .i64 0) (by decide) (fun i hi => by match i, hi with | 0, _ => rfl)] at hown0; simpa [filledI, flatI] using hown0, hb0⟩
  case round =>
    obtain ⟨k, hkl, rfl, hown, hb⟩ := hrel
    clear hown0 hb0
    by_cases hlt : k < l.length
    · have hal := ha (by omega)
      subst hal
      have d0 := (hb.cell (by exact cell_lt (hk k hlt))).trans (hk k hlt)
      have hat := flatI_at (filledI l k) k (by rw [filledI_length l k hkl]; exact hlt)
      have e0 := (hown.cellAt k (by omega)).trans hat
      have f0 := hown.frozenAt k
      have st := (hown.stored k (.int .i64 (iAt l k))).1
      rw [flatI_set, filledI_step l k hlt] at st
      generalize iAt (filledI l k) k = x0 at *
      have ST : Hid _ := st
      clear st hown hat hk hr
      go_wp2
      go_roundw
      case rel => exact ⟨k + 1, by omega, by go_num, ST.out, hb.setCell (Nat.le_refl _) _⟩
      case measure => simp [intOf]; omega
    · go_wp2
      go_ret
      have hkk : k = l.length := by omega
      subst hkk
      rw [filledI_full] at hown
      exact ⟨_, rfl, hown, hb⟩

/-- WHAT toTree, toTreeS DO TO TREES OF A HEIGHT OF AT MOST n. -/
def ToTree (n : Nat) : Prop := ∀ (x : TV) (T : Tr) (w : World), TreeAt n w x T → sizeT n T ≤ 1048576 →
    Calls Try.prog 14 #[x.val] w fun e w' => ∃ y : TV, e = .returned y.val ∧ TreeOwn n w' w.heap.size y T ∧ Below w.heap.size w w'
def ToTreeS (n : Nat) : Prop := ∀ (v : Value) (ts : List Tr) (w : World), TreesAt n w v ts → sizeTs n ts ≤ 1048576 →
    Calls Try.prog 27 #[v] w fun e w' => ∃ v', e = .returned v' ∧ TreesOwn n w' w.heap.size v' ts ∧ Below w.heap.size w w'

theorem tvAt_set_eq (l : List TV) (y : TV) (k : Nat) (hk : k < l.length) : tvAt (l.set k y) k = y := by simp [tvAt, List.getD, hk]
theorem tvAt_set_ne (l : List TV) (y : TV) (k i : Nat) (h : k ≠ i) : tvAt (l.set k y) i = tvAt l i := by simp [tvAt, List.getD, h]
theorem flatT_zero (n : Nat) (i : Nat) : (flatT (List.replicate n noTV))[i]? = (if i < n * 5 then some (if i % 5 = 0 then .bool false else .slice none 0 0) else none) := by
  induction n generalizing i with
  | zero => simp [flatT]
  | succ n ih =>
    rw [List.replicate_succ, flatT_cons]
    match i with
    | 0 => simp [noTV]
    | 1 => simp [noTV]; omega
    | 2 => simp [noTV]; omega
    | 3 => simp [noTV]; omega
    | 4 => simp [noTV]; omega
    | i + 5 =>
      simp only [List.getElem?_cons_succ]
      rw [ih i, show (i + 5) % 5 = i % 5 by omega]
      by_cases h : i < n * 5
      · rw [if_pos h, if_pos (show i + 5 < (n + 1) * 5 by omega)]
      · rw [if_neg h, if_neg (show ¬ i + 5 < (n + 1) * 5 by omega)]
theorem madeCells_tree (n : Nat) : (madeCells #[.bool false, .slice none 0 0, .slice none 0 0, .slice none 0 0, .slice none 0 0] (n * 5)).toList = flatT (List.replicate n noTV) := by
  apply List.ext_getElem?
  intro j
  rw [flatT_zero]
  by_cases hj : j < n * 5
  · rw [if_pos hj]
    simp only [madeCells]
    have : j % 5 = 0 ∨ j % 5 = 1 ∨ j % 5 = 2 ∨ j % 5 = 3 ∨ j % 5 = 4 := by omega
    rcases this with h | h | h | h | h <;> simp [hj, h]
  · rw [if_neg hj]
    simp [madeCells, hj]

end Go.Proofs.Ytmoaccohnmkleaa
