/-
  The contract of the model's l2DrawRight.
  What becomes of a tree in memory of its own when one of its rows is appended to, or written.
  More functions that are entered.
  What shrunk messages do, key by key; plain mathematics.
-/
import Derived.Test.YtbmcojelgbkafaaDoorOfNodes24
import Derived.Test.YtbmcojelgbkafaaDoorOfNodes22
import Derived.Test.YtbmcojelgbkafaaDoorOfNodes6
namespace Go.Proofs.YtbmcojelgbkafaaDoor
set_option maxRecDepth 100000
set_option maxHeartbeats 8000000
section
open Go.RowKit

theorem TreeD.ok8 {N : Nat} {w : World} {F : Nat → Prop} {x : TV} {T : Tr} (h : TreeD N w F x T) (ho : okT T = true) : TreeD 8 w F x T := (TreeD.down (ok_sh ho).1 h).le (by have := (ok_sh ho).2.1; omega)
theorem size_ok8 {T : Tr} (ho : okT T = true) : sizeT 8 T ≤ 1000000 := by
 obtain ⟨h1, h2, h3⟩ := ok_sh ho
 exact Nat.le_trans (sh_size h1 (by omega)) (by omega)
def newT : Tr := ⟨true, [], [], [], []⟩
theorem newT_ok : okT newT = true := by decide
theorem newT_at (w : World) (F : Nat → Prop) : TreeD 8 w F ⟨true, .slice none 0 0, .slice none 0 0, .slice none 0 0, .slice none 0 0⟩ newT :=
 ⟨rfl, OwnE.nil _ _ _ _, OwnE.nil _ _ _ _, OwnE.nil _ _ _ _, fun g hg => by rcases hg with h | h | h | h <;> exact absurd h (wrB_nil g), [], fun _ _ => False, rfl, OwnE.nil _ _ _ _, fun i hi => absurd hi (Nat.not_lt_zero _), fun _ _ _ h => h.elim, fun _ _ _ _ _ h => h.elim⟩

theorem specTreeNew_any (w : World) : Calls Tryd.prog 42 #[] w fun e w' => e = .returned (.agg #[.bool true, .slice none 0 0, .slice none 0 0, .slice none 0 0, .slice none 0 0]) ∧ Below w.heap.size w w' := by
 go_enter Tryd.func42, Tryd.ntmps42
 go_wp2
 refine bodyPost_ret (v := .agg #[.bool true, .slice none 0 0, .slice none 0 0, .slice none 0 0, .slice none 0 0]) (by simp [results, Tryd.results42, go_sem]) rfl ⟨rfl, al1 _ _⟩

theorem l1Long_any (a : Option Addr) (n cap : Nat) (w : World) (hn : n ≤ 1048576) : Calls Tryd.prog 49 #[.slice a n cap, .int .i64 30, .int .i64 90] w fun e w' => ∃ x : Int, e = .returned (.int .i64 x) ∧ 0 ≤ x ∧ x ≤ 90 ∧ Below w.heap.size w w' := by
 go_enter Tryd.func49, Tryd.ntmps49
 go_wp2
 all_goals (
  go_ret
  exact ⟨_, rfl, by omega, by omega, Below.refl _ _⟩)

def RightIs (C : Nat) (w : World) (e : Ending) (w' : World) : Prop := ∃ (y : TV) (T : Tr), e = .returned y.val ∧ okT T = true ∧ TreeD 8 w' (fun g => w.heap.size ≤ g) y T ∧ Cur w' C ∧ Chg (fun g => g = C) w w'
end
section
open Go.RowKit

theorem OwnE.block {w : World} {base e size n : Nat} {v : Value} {xs : List Value} (h : OwnE w base e size v n xs) : ∀ g, wrB v g → ∃ cur, w.heap[g]? = some (.cells cur e (0, 0)) := by
 rintro g ⟨k, cap, rfl, hc⟩
 rcases h with h | ⟨_, _, g', hg⟩
 ·obtain ⟨_, ⟨h1, _⟩ | ⟨g', cap', cur, h1, hg, hh, _⟩⟩ := h
  ·simp at h1
  ·simp at h1
   rw [← h1.1] at hh
   exact ⟨cur, hh⟩
 ·simp at hg
  omega
theorem OwnE.apart {w : World} {b1 b2 e1 e2 s1 s2 n1 n2 : Nat} {v1 v2 : Value} {x1 x2 : List Value} (h1 : OwnE w b1 e1 s1 v1 n1 x1) (h2 : OwnE w b2 e2 s2 v2 n2 x2) (he : e1 ≠ e2) : ∀ g, wrB v1 g → ¬ wrB v2 g := by
 intro g k1 k2
 obtain ⟨c1, j1⟩ := h1.block g k1
 obtain ⟨c2, j2⟩ := h2.block g k2
 rw [j1] at j2
 simp at j2
 exact he j2.2
theorem OwnE.store {w : World} {base e size n g cap : Nat} {xs : List Value} (h : OwnE w base e size (.slice (some ⟨g, 0, none⟩) n cap) n xs) (hc : 0 < cap) (i : Nat) (u : Value) : OwnE (w.setCell ⟨g, i, none⟩ u) base e size (.slice (some ⟨g, 0, none⟩) n cap) n (xs.set i u) := by
 rcases h with h | ⟨_, _, g', hg⟩
 ·obtain ⟨hl, ⟨h1, _⟩ | ⟨g', cap', cur, h1, hg, hh, hn, hcap, hsz, htake⟩⟩ := h
  ·simp at h1
  ·simp at h1
   obtain ⟨rfl, rfl⟩ := h1
   refine .inl ⟨by simpa using hl, .inr ⟨g, cap, cur.setIfInBounds i u, rfl, hg, heap_setCell_same w g i cur e u hh, hn, hcap, by simpa using hsz, ?_⟩⟩
   rw [Array.toList_setIfInBounds, List.take_set, htake]
 ·simp at hg
  omega
theorem OwnE.cell {w : World} {base e size n g cap : Nat} {xs : List Value} (h : OwnE w base e size (.slice (some ⟨g, 0, none⟩) n cap) n xs) (i : Nat) (u : Value) (hu : xs[i]? = some u) : w.cell? ⟨g, i, none⟩ = some u ∧ w.frozen? ⟨g, i, none⟩ = false := by
 rcases h with h | ⟨_, h2, _⟩
 ·obtain ⟨hl, ⟨h1, _⟩ | ⟨g', cap', cur, h1, hg, hh, hn, hcap, hsz, htake⟩⟩ := h
  ·simp at h1
  ·simp at h1
   obtain ⟨rfl, rfl⟩ := h1
   refine ⟨?_, frozen_of_row w g i cur e hh⟩
   rw [cell_of_row w g i cur e (0, 0) hh, ← hu, ← htake, ← Array.getElem?_toList]
   have hi : i < xs.length := (List.getElem?_eq_some_iff.1 hu).1
   rw [List.getElem?_take_of_lt (by omega)]
 ·rw [h2] at hu
  simp at hu
theorem OwnE.pos {w : World} {base e size n : Nat} {v : Value} {xs : List Value} (h : OwnE w base e size v n xs) (hn : 0 < n) : ∃ g cap, v = .slice (some ⟨g, 0, none⟩) n cap ∧ 0 < cap ∧ n ≤ cap := by
 rcases h with h | ⟨h, _⟩
 ·obtain ⟨g, cap, h1, h2, h3⟩ := h.form hn
  refine ⟨g, cap, h1, ?_, ?_⟩
  ·obtain ⟨_, ⟨k1, _⟩ | ⟨g', cap', cur, k1, _, _, k4, _⟩⟩ := h
   ·rw [h1] at k1; simp at k1
   ·rw [h1] at k1; simp at k1; omega
  ·obtain ⟨_, ⟨k1, _⟩ | ⟨g', cap', cur, k1, _, _, k4, _⟩⟩ := h
   ·rw [h1] at k1; simp at k1
   ·rw [h1] at k1; simp at k1; omega
 ·omega

variable {n : Nat} {w w' : World} {F : Nat → Prop} {lf : Bool} {p c k b : Value} {T : Tr}

theorem TreeD.rows {P : Nat → Prop} (h : TreeD (n + 1) w F ⟨lf, p, c, k, b⟩ T) (hc : Chg P w w') :
  ((∀ g, wrB p g → ¬ P g) → RowF w' F p T.pairs.length (flatP T.pairs)) ∧ ((∀ g, wrB c g → ¬ P g) → RowF w' F c T.cuts.length (flatI T.cuts)) ∧ ((∀ g, wrB b g → ¬ P g) → RowF w' F b T.buf.length (flatM T.buf)) ∧
  ((∀ g, P g → (wrB p g ∨ wrB c g ∨ wrB b g ∨ wrB k g) ∨ ¬ F g) → (∀ g, wrB k g → ¬ P g) → TreesF n w' F k T.kids) := by
 obtain ⟨h1, h2, h3, h4, h5, xs, K, k1, k2, k3, k4, k5⟩ := h
 simp only at h1 h2 h3 h4 h5 k2 k4
 refine ⟨fun hp => ((h2.chg hc hp).rowF).mono (fun g hg => h5 g (.inl hg)), fun hp => ((h3.chg hc hp).rowF).mono (fun g hg => h5 g (.inr (.inl hg))), fun hp => ((h4.chg hc hp).rowF).mono (fun g hg => h5 g (.inr (.inr (.inl hg)))), fun hP hp => ⟨xs, k1, ((k2.chg hc hp).rowF).mono (fun g hg => h5 g (.inr (.inr (.inr hg)))), fun i hi => ?_⟩⟩
 refine ((k3 i hi).treeF.chg hc (fun g hg hPg => ?_)).mono (fun g hg => (k4 i g hi hg).1)
 rcases hP g hPg with h | h
 ·exact (k4 i g hi hg).2 h
 ·exact h (k4 i g hi hg).1

theorem mar_buf {m : Int × Int × Int} {b' : Value} (h : TreeD (n + 1) w F ⟨lf, p, c, k, b⟩ T) (ha : AppTo w 0 54 3 b (T.buf.length + 1) (flatM T.buf ++ flatM [m]) b' w') :
  TreeF (n + 1) w' (fun g => F g ∨ w.heap.size ≤ g) ⟨lf, p, c, k, b'⟩ { T with buf := T.buf ++ [m] } := by
 obtain ⟨r1, r2, _, r4⟩ := h.rows ha.2.1
 obtain ⟨h1, h2, h3, h4, h5, xs, K, k1, k2, k3, k4, k5⟩ := h
 refine TreeF.mk h1 ((r1 (h2.apart h4 (by decide))).mono (fun g hg => .inl hg)) ((r2 (h3.apart h4 (by decide))).mono (fun g hg => .inl hg)) ?_ ((r4 (fun g hg => .inl (.inr (.inr (.inl hg)))) (k2.apart h4 (by decide))).mono (fun g hg => .inl hg))
 have := ha.1.rowF.mono (G := fun g => F g ∨ w.heap.size ≤ g) (fun g hg => (ha.2.2.2 g hg).imp (fun h => h5 g (.inr (.inr (.inl h)))) id)
 rw [← flatM_append] at this
 simpa using this
theorem mar_pairs {m : Int × Int} {p' : Value} (h : TreeD (n + 1) w F ⟨lf, p, c, k, b⟩ T) (ha : AppTo w 0 52 2 p (T.pairs.length + 1) (flatP T.pairs ++ flatP [m]) p' w') :
  TreeF (n + 1) w' (fun g => F g ∨ w.heap.size ≤ g) ⟨lf, p', c, k, b⟩ { T with pairs := T.pairs ++ [m] } := by
 obtain ⟨_, r2, r3, r4⟩ := h.rows ha.2.1
 obtain ⟨h1, h2, h3, h4, h5, xs, K, k1, k2, k3, k4, k5⟩ := h
 refine TreeF.mk h1 ?_ ((r2 (h3.apart h2 (by decide))).mono (fun g hg => .inl hg)) ((r3 (h4.apart h2 (by decide))).mono (fun g hg => .inl hg)) ((r4 (fun g hg => .inl (.inl hg)) (k2.apart h2 (by decide))).mono (fun g hg => .inl hg))
 have := ha.1.rowF.mono (G := fun g => F g ∨ w.heap.size ≤ g) (fun g hg => (ha.2.2.2 g hg).imp (fun h => h5 g (.inl h)) id)
 rw [← flatP_append] at this
 simpa using this
theorem wrB_is {g cap m : Nat} (hc : 0 < cap) : ∀ g', wrB (.slice (some ⟨g, 0, none⟩) m cap) g' ↔ g' = g := fun g' => ⟨fun ⟨_, _, h, _⟩ => by simp at h; exact h.1.symm, fun h => h ▸ ⟨_, _, rfl, hc⟩⟩
theorem mar_cut {g cap : Nat} (x : Int) (h : TreeD (n + 1) w F ⟨lf, p, .slice (some ⟨g, 0, none⟩) T.cuts.length cap, k, b⟩ T) (hcap : 0 < cap) :
  TreeF (n + 1) (w.setCell ⟨g, 0, none⟩ (.int .i64 x)) F ⟨lf, p, .slice (some ⟨g, 0, none⟩) T.cuts.length cap, k, b⟩ { T with cuts := T.cuts.set 0 x } := by
 have hc := chg_set1 w g 0 (.int .i64 x)
 obtain ⟨r1, _, r3, r4⟩ := h.rows hc
 obtain ⟨h1, h2, h3, h4, h5, xs, K, k1, k2, k3, k4, k5⟩ := h
 have hw : ∀ g', g' = g → wrB (.slice (some ⟨g, 0, none⟩) T.cuts.length cap) g' := fun g' e => (wrB_is hcap g').2 e
 refine TreeF.mk h1 (r1 (fun g' hg e => h2.apart h3 (by decide) g' hg (hw g' e))) ?_ (r3 (fun g' hg e => h4.apart h3 (by decide) g' hg (hw g' e))) (r4 (fun g' e => .inl (.inr (.inl (hw g' e)))) (fun g' hg e => k2.apart h3 (by decide) g' hg (hw g' e)))
 have := (h3.store hcap 0 (.int .i64 x)).rowF.mono (G := F) (fun g' hg => h5 g' (.inr (.inl hg)))
 rw [show (flatI T.cuts).set 0 (.int .i64 x) = flatI (T.cuts.set 0 x) by simp [flatI, List.map_set]] at this
 simpa using this
theorem mar_kid {g cap : Nat} {y : TV} {U : Tr} {F' : Nat → Prop} (h : TreeD (n + 1) w F ⟨lf, p, c, .slice (some ⟨g, 0, none⟩) T.kids.length cap, b⟩ T) (hcap : 0 < cap) (hk : 0 < T.kids.length) (hy : TreeF n w F' y U) (hF : ¬ F' g) :
  TreeF (n + 1) (set5 w g (.bool y.lf) y.p y.c y.k y.b) (fun g => F g ∨ F' g) ⟨lf, p, c, .slice (some ⟨g, 0, none⟩) T.kids.length cap, b⟩ { T with kids := T.kids.set 0 U } := by
 have hc := chg_set5 w g (.bool y.lf) y.p y.c y.k y.b
 obtain ⟨r1, r2, r3, _⟩ := h.rows hc
 obtain ⟨h1, h2, h3, h4, h5, xs, K, k1, k2, k3, k4, k5⟩ := h
 simp only at h1 h2 h3 h4 h5 k2 k4
 have hw : ∀ g', g' = g → wrB (.slice (some ⟨g, 0, none⟩) T.kids.length cap) g' := fun g' e => (wrB_is hcap g').2 e
 rw [k1] at k2
 refine TreeF.mk h1 ((r1 (fun g' hg e => h2.apart k2 (by decide) g' hg (hw g' e))).mono (fun g hg => .inl hg)) ((r2 (fun g' hg e => h3.apart k2 (by decide) g' hg (hw g' e))).mono (fun g hg => .inl hg)) ((r3 (fun g' hg e => h4.apart k2 (by decide) g' hg (hw g' e))).mono (fun g hg => .inl hg)) ⟨xs.set 0 y, by simp [k1], ?_, fun i hi => ?_⟩
 ·have := (((((k2.store hcap 0 (.bool y.lf)).store hcap 1 y.p).store hcap 2 y.c).store hcap 3 y.k).store hcap 4 y.b).rowF.mono (G := fun g => F g ∨ F' g) (fun g' hg => .inl (h5 g' (.inr (.inr (.inr hg)))))
  have e := flatT_set xs y 0 (by omega)
  simp only [Nat.zero_mul, Nat.zero_add] at e
  rw [e] at this
  simpa [k1] using this
 ·rw [List.length_set] at hi
  rcases Nat.eq_zero_or_pos i with h0 | h0
  ·subst h0
   have e1 : tvAt (xs.set 0 y) 0 = y := by simp [tvAt, List.getD, hi]
   have e2 : (T.kids.set 0 U).getD 0 noTr = U := by simp [List.getD, hk]
   rw [e1, e2]
   exact (hy.chg hc (fun g' hg e => hF (e ▸ hg))).mono (fun g hg => .inr hg)
  ·have e1 : tvAt (xs.set 0 y) i = tvAt xs i := by simp [tvAt, List.getD, List.getElem?_set_ne (by omega : (0 : Nat) ≠ i)]
   have e2 : (T.kids.set 0 U).getD i noTr = T.kids.getD i noTr := by simp [List.getD, List.getElem?_set_ne (by omega : (0 : Nat) ≠ i)]
   rw [e1, e2]
   refine ((k3 i hi).treeF.chg hc (fun g' hg e => ?_)).mono (fun g hg => .inl (k4 i g hi hg).1)
   exact (k4 i g' hi hg).2 (.inr (.inr (.inr (hw g' e))))
theorem mar_leaf (h : TreeD (n + 1) w F ⟨lf, p, c, k, b⟩ T) (hc : Chg (fun g => ¬ F g) w w') : TreeF (n + 1) w' F ⟨!lf, p, c, k, b⟩ { T with leaf := !T.leaf } := by
 obtain ⟨h1, h2, h3, h4, h5⟩ := (h.treeF.chg hc (fun g hg k => k hg)).parts
 simp only at h1 h2 h3 h4 h5
 exact TreeF.mk (by simp [h1]) h2 h3 h4 h5

theorem sum_set0 (f : Tr → Nat) (U : Tr) : ∀ l : List Tr, ((l.set 0 U).map f).sum ≤ (l.map f).sum + f U
 | [] => by simp
 | t :: l => by simp; omega

theorem size_buf (n : Nat) (T : Tr) (m : Int × Int × Int) : sizeT (n + 1) { T with buf := T.buf ++ [m] } = sizeT (n + 1) T + 1 := by
 simp only [sizeT, List.length_append, List.length_cons, List.length_nil]; omega
theorem size_pairs (n : Nat) (T : Tr) (m : Int × Int) : sizeT (n + 1) { T with pairs := T.pairs ++ [m] } = sizeT (n + 1) T + 1 := by
 simp only [sizeT, List.length_append, List.length_cons, List.length_nil]; omega
theorem size_cut (n : Nat) (T : Tr) (x : Int) : sizeT (n + 1) { T with cuts := T.cuts.set 0 x } = sizeT (n + 1) T := by
 simp only [sizeT, List.length_set]
theorem size_kid0 (n : Nat) (T U : Tr) : sizeT (n + 1) { T with kids := T.kids.set 0 U } ≤ sizeT (n + 1) T + sizeT n U := by
 have := sum_set0 (sizeT n) U T.kids
 simp only [sizeT, List.length_set]
 omega
end
section
open Go.RowKit

theorem run24 (args : Array Value) (w : World) : (callFunc 24 args).run Tryd.prog w = .ok (.enter 24 args) w := by go_simp
theorem run41 (args : Array Value) (w : World) : (callFunc 41 args).run Tryd.prog w = .ok (.enter 41 args) w := by go_simp
theorem run42 (args : Array Value) (w : World) : (callFunc 42 args).run Tryd.prog w = .ok (.enter 42 args) w := by go_simp
end
section
def effK (k : Int) (s : Int × Bool) (m : Int × Int × Int) : Int × Bool :=
 if m.2.1 = k then (if m.1 = 1 then (m.2.2, true) else if m.1 = 2 then (0, false) else if m.1 = 3 then (clampI (s.1 + m.2.2), true) else s) else s
theorem effK_other {k : Int} {s : Int × Bool} {m : Int × Int × Int} (h : m.2.1 ≠ k) : effK k s m = s := by rw [effK, if_neg h]
theorem effK_fold_other {k : Int} (l : ML) (h : ∀ m ∈ l, m.2.1 ≠ k) (s : Int × Bool) : l.foldl (effK k) s = s := by
 induction l generalizing s with
 | nil => rfl
 | cons m l ih => rw [List.foldl_cons, effK_other (h m (by simp))]; exact ih (fun q hq => h q (by simp [hq])) s
theorem over_forgets {k : Int} (l : ML) (h : overB l k = true) (s s' : Int × Bool) : (okMs l).foldl (effK k) s = (okMs l).foldl (effK k) s' := by
 induction l generalizing s s' with
 | nil => simp [overB] at h
 | cons m l ih =>
  rw [overB, List.any_cons, ← overB, Bool.or_eq_true] at h
  by_cases h1 : okM m = true
  ·rw [okMs, List.filter_cons_of_pos h1, List.foldl_cons, List.foldl_cons]
   rcases h with h | h
   ·simp only [h1, Bool.true_and, Bool.and_eq_true, beq_iff_eq, rulB, Bool.or_eq_true] at h
    have e : effK k s m = effK k s' m := by
     unfold effK
     rw [if_pos h.1, if_pos h.1]
     rcases h.2 with h2 | h2
     ·rw [if_pos h2, if_pos h2]
     ·have h3 : m.1 ≠ 1 := by omega
      rw [if_neg h3, if_neg h3, if_pos h2, if_pos h2]
    rw [e]
   ·exact ih h _ _
  ·rw [okMs, List.filter_cons_of_neg h1]
   rcases h with h | h
   ·simp [h1] at h
   ·exact ih h _ _
theorem kept_eff (k : Int) (l : ML) (s : Int × Bool) : (keptF l).foldl (effK k) s = (okMs l).foldl (effK k) s := by
 induction l generalizing s with
 | nil => rfl
 | cons m l ih =>
  rw [keptF]
  by_cases h1 : okM m = true
  ·have e : okMs (m :: l) = m :: okMs l := by rw [okMs, List.filter_cons_of_pos h1]; rfl
   rw [e, List.foldl_cons]
   by_cases h2 : m.1 = 4
   ·rw [if_neg (by simp [h2]), ih]
    have : effK k s m = s := by simp [effK, h2]
    rw [this]
   ·cases hb : overB l m.2.1
    ·rw [if_pos ⟨h1, h2, rfl⟩, List.foldl_cons, ih]
    ·rw [if_neg (by simp), ih]
     by_cases hk : m.2.1 = k
     ·subst hk; exact over_forgets l hb _ _
     ·rw [effK_other hk]
  ·have e : okMs (m :: l) = okMs l := by rw [okMs, List.filter_cons_of_neg h1]; rfl
   rw [if_neg (by simp [h1]), e, ih]

def Good (A : ML) : Prop := A.Pairwise fun a b => a.2.1 = b.2.1 → a.1 ≠ 1 ∧ rulB b = false
theorem joins_spec {A : ML} {m : Int × Int × Int} (h : joinsB A m = true) : m.1 = 3 ∧ ∃ n, firstI A m.2.1 = (n : Nat) ∧ n < A.length ∧ mK A n = m.2.1 ∧ mO A n = 1 := by
 simp only [joinsB, Bool.and_eq_true, decide_eq_true_eq, beq_iff_eq] at h
 obtain ⟨h0, h1, h3⟩ := h
 refine ⟨h3, ?_⟩
 rcases firstI_spec A m.2.1 with ⟨q, _⟩ | ⟨n, q1, q2, q3, q4⟩
 ·omega
 ·exact ⟨n, q1, q2, q3, by rw [q1] at h1; simpa using h1⟩
theorem Good.parts {X Y : ML} {p : Int × Int × Int} (h : Good (X ++ p :: Y)) : Good X ∧ (∀ b ∈ Y, p.2.1 = b.2.1 → p.1 ≠ 1 ∧ rulB b = false) ∧ Good Y ∧ (∀ a ∈ X, (a.2.1 = p.2.1 → a.1 ≠ 1 ∧ rulB p = false) ∧ ∀ b ∈ Y, a.2.1 = b.2.1 → a.1 ≠ 1 ∧ rulB b = false) := by
 obtain ⟨h1, h2, h3⟩ := List.pairwise_append.1 h
 obtain ⟨h4, h5⟩ := List.pairwise_cons.1 h2
 exact ⟨h1, h4, h5, fun a ha => ⟨h3 a ha p (by simp), fun b hb => h3 a ha b (by simp [hb])⟩⟩
theorem Good.mk {X Y : ML} {p : Int × Int × Int} (h1 : Good X) (h4 : ∀ b ∈ Y, p.2.1 = b.2.1 → p.1 ≠ 1 ∧ rulB b = false) (h5 : Good Y) (h3 : ∀ a ∈ X, (a.2.1 = p.2.1 → a.1 ≠ 1 ∧ rulB p = false) ∧ ∀ b ∈ Y, a.2.1 = b.2.1 → a.1 ≠ 1 ∧ rulB b = false) : Good (X ++ p :: Y) := by
 refine List.pairwise_append.2 ⟨h1, List.pairwise_cons.2 ⟨h4, h5⟩, fun a ha b hb => ?_⟩
 rcases List.mem_cons.1 hb with rfl | hb
 ·exact (h3 a ha).1
 ·exact (h3 a ha).2 b hb
theorem split_at (A : ML) {n : Nat} (h : n < A.length) : A = A.take n ++ (mO A n, mK A n, mV A n) :: A.drop (n + 1) := by
 have e := List.drop_eq_getElem_cons h
 rw [ml_at A n h] at e
 rw [← e, List.take_append_drop]
theorem step_set {A : ML} {m : Int × Int × Int} {n : Nat} (hj : joinsB A m = true) (hf : firstI A m.2.1 = (n : Nat)) (hn : n < A.length) (hk : mK A n = m.2.1) (ho : mO A n = 1) :
  stepS A m = A.take n ++ (1, m.2.1, clampI (mV A n + m.2.2)) :: A.drop (n + 1) := by
 rw [stepS, if_pos hj, hf, Int.toNat_natCast, ho, hk, List.set_eq_take_append_cons_drop, if_pos hn]
theorem good_step {A : ML} (hA : Good A) {m : Int × Int × Int} (hm : okN m) (hr : rulB m = true → ∀ a ∈ A, a.2.1 ≠ m.2.1) : Good (stepS A m) := by
 cases hj : joinsB A m
 ·have e : stepS A m = A ++ [m] := by rw [stepS, hj]; rfl
  rw [e]
  refine Good.mk hA (fun b hb => by simp at hb) List.Pairwise.nil (fun a ha => ⟨fun he => ?_, fun b hb => by simp at hb⟩)
  have hnr : rulB m = false := by
   cases hb : rulB m
   ·rfl
   ·exact absurd he (hr hb a ha)
  refine ⟨fun h1 => ?_, hnr⟩
  have h3 : m.1 = 3 := by
   have := (msgOkB_in hm.1).1
   have h4 := hm.2
   simp only [rulB, Bool.or_eq_false_iff, beq_eq_false_iff_ne] at hnr
   have := hnr.1; have := hnr.2
   omega
  rcases firstI_spec A m.2.1 with ⟨_, q⟩ | ⟨n, q1, q2, q3, q4⟩
  ·exact q a ha he
  ·have ho : mO A n ≠ 1 := fun ho => by
    have : joinsB A m = true := by simp [joinsB, q1, ho, h3]
    rw [hj] at this; cases this
   obtain ⟨i, hi, rfl⟩ := List.getElem_of_mem ha
   rw [ml_at A i hi] at he h1
   simp only at he h1
   have hin : i ≠ n := fun e => by subst e; exact ho h1
   have hlt : ¬ i < n := fun hlt => q4 i hlt he
   have := List.pairwise_iff_getElem.1 hA n i q2 hi (by omega)
   rw [ml_at A n q2, ml_at A i hi] at this
   have := (this (by simp only; omega)).2
   simp [rulB, h1] at this
 ·obtain ⟨h3, n, q1, q2, q3, q4⟩ := joins_spec hj
  rw [step_set hj q1 q2 q3 q4]
  have hs := split_at A q2
  rw [q3, q4] at hs
  rw [hs] at hA
  obtain ⟨g1, g2, g3, g4⟩ := hA.parts
  exact Good.mk g1 g2 g3 g4
theorem eff_step {A : ML} (hA : Good A) (m : Int × Int × Int) (k : Int) (s : Int × Bool) : (stepS A m).foldl (effK k) s = effK k (A.foldl (effK k) s) m := by
 cases hj : joinsB A m
 ·have e : stepS A m = A ++ [m] := by rw [stepS, hj]; rfl
  rw [e, List.foldl_append]; rfl
 ·obtain ⟨h3, n, q1, q2, q3, q4⟩ := joins_spec hj
  rw [step_set hj q1 q2 q3 q4]
  have hs := split_at A q2
  rw [q3, q4] at hs
  have hA' := hA
  rw [hs] at hA'
  obtain ⟨_, g2, _, _⟩ := hA'.parts
  have hY : ∀ b ∈ A.drop (n + 1), b.2.1 ≠ m.2.1 := fun b hb he => (g2 b hb he.symm).1 rfl
  have hA2 : A.foldl (effK k) s = (A.drop (n + 1)).foldl (effK k) (effK k ((A.take n).foldl (effK k) s) (1, m.2.1, mV A n)) := by
   conv => lhs; rw [hs]
   rw [List.foldl_append, List.foldl_cons]
  rw [hA2, List.foldl_append, List.foldl_cons]
  by_cases hk : m.2.1 = k
  ·subst hk
   rw [effK_fold_other _ hY, effK_fold_other _ hY]
   simp [effK, h3]
  ·rw [effK_other (m := (1, m.2.1, clampI (mV A n + m.2.2))) hk, effK_other (m := (1, m.2.1, mV A n)) hk, effK_other (m := m) hk]
theorem fold_good (l : ML) (hl : NoRul l) (ho : ∀ m ∈ l, okN m) (A : ML) (h : Good A) (hA : ∀ m ∈ l, rulB m = true → ∀ a ∈ A, a.2.1 ≠ m.2.1) (k : Int) (s : Int × Bool) :
  Good (l.foldl stepS A) ∧ (l.foldl stepS A).foldl (effK k) s = l.foldl (effK k) (A.foldl (effK k) s) := by
 induction l generalizing A with
 | nil => exact ⟨h, rfl⟩
 | cons m l ih =>
  obtain ⟨hl1, hl2⟩ := List.pairwise_cons.1 hl
  rw [List.foldl_cons, List.foldl_cons, ← eff_step h]
  refine ih hl2 (fun q hq => ho q (by simp [hq])) (stepS A m) (good_step h (ho m (by simp)) (hA m (by simp))) (fun q hq hr => ?_)
  refine step_keys A m q.2.1 (hA q (by simp [hq]) hr) (fun he => ?_)
  have := hl1 q hq he
  rw [hr] at this; cases this
theorem shrink_good (ms : ML) (k : Int) (s : Int × Bool) : Good (shrinkF ms) ∧ (shrinkF ms).foldl (effK k) s = (okMs ms).foldl (effK k) s := by
 have := fold_good (keptF ms) (kept_norul ms) (fun m hm => (kept_sub ms m hm).2) [] List.Pairwise.nil (fun m _ _ a ha => by simp at ha) k s
 rw [← kept_eff]
 exact this
theorem okMs_shrink (ms : ML) : okMs (shrinkF ms) = shrinkF ms := List.filter_eq_self.2 (fun a ha => (shrinkF_ok ms a ha).1)
theorem eff_upd (k : Int) (ms : ML) (s : Int × Bool) : (okMs ms).foldl (effK k) s = updA s (ofK ms k) := by
 induction ms generalizing s with
 | nil => rfl
 | cons m ms ih =>
  by_cases hk : m.2.1 = k
  ·have e2 : ofK (m :: ms) k = m :: ofK ms k := by simp [ofK, hk]
   rw [e2]
   show _ = updA (updV s m) (ofK ms k)
   by_cases h1 : okM m = true
   ·have e : okMs (m :: ms) = m :: okMs ms := by rw [okMs, List.filter_cons_of_pos h1]; rfl
    rw [e, List.foldl_cons, ih]
    congr 1
    have h1' : msgOkB m.1 m.2.1 m.2.2 = true := h1
    unfold effK updV
    rw [if_pos hk, if_pos h1']
   ·have e : okMs (m :: ms) = okMs ms := by rw [okMs, List.filter_cons_of_neg h1]; rfl
    have h1' : ¬ msgOkB m.1 m.2.1 m.2.2 = true := h1
    rw [e, ih, updV, if_neg h1']
  ·have e2 : ofK (m :: ms) k = ofK ms k := by simp [ofK, hk]
   rw [e2]
   by_cases h1 : okM m = true
   ·have e : okMs (m :: ms) = m :: okMs ms := by rw [okMs, List.filter_cons_of_pos h1]; rfl
    rw [e, List.foldl_cons, effK_other hk, ih]
   ·have e : okMs (m :: ms) = okMs ms := by rw [okMs, List.filter_cons_of_neg h1]; rfl
    rw [e, ih]
theorem upd_shrink (k : Int) (ms : ML) (s : Int × Bool) : updA s (ofK (shrinkF ms) k) = updA s (ofK ms k) := by
 rw [← eff_upd, ← eff_upd, okMs_shrink]
 exact (shrink_good ms k s).2
theorem foldS_keys (k : Int) : ∀ (l A : ML), (∀ m ∈ l, m.2.1 ≠ k) → (∀ a ∈ A, a.2.1 ≠ k) → ∀ a ∈ l.foldl stepS A, a.2.1 ≠ k
 | [], _, _, hA => hA
 | m :: l, A, hl, hA => foldS_keys k l (stepS A m) (fun q hq => hl q (List.mem_cons_of_mem _ hq)) (step_keys A m k hA (hl m List.mem_cons_self))
theorem shrink_keys {ms : ML} {a : Int × Int × Int} (h : a ∈ shrinkF ms) : ∃ m ∈ ms, m.2.1 = a.2.1 := by
 refine Classical.byContradiction fun hn => ?_
 have h1 : ∀ m ∈ keptF ms, m.2.1 ≠ a.2.1 := fun m hm he => hn ⟨m, (kept_sub ms m hm).1, he⟩
 exact foldS_keys a.2.1 (keptF ms) [] h1 (fun x hx => by simp at hx) a h rfl
end
end Go.Proofs.YtbmcojelgbkafaaDoor
