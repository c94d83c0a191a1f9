/-
  What becomes of a tree in memory of its own when one of its rows is appended to, or written.
-/
import Derived.Test.YtmpiijphpnjlnaaGreatCopy
namespace Go.Proofs.YtmpiijphpnjlnaaGreat
open Go.RowKit

theorem OwnE.block {w : World} {base e size n : Nat} {v : Value} {xs : List Value} (h : OwnE w base e size v n xs) : ∀ g, wrB v g → ∃ cur, w.heap[g]? = some (.cells cur e (0, 0)) := by
  rintro g ⟨k, cap, rfl, hc⟩
  rcases h with h | ⟨_, _, g', hg⟩
  · obtain ⟨_, ⟨h1, _⟩ | ⟨g', cap', cur, h1, hg, hh, _⟩⟩ := h
    · simp at h1
    · simp at h1
      rw [← h1.1] at hh
      exact ⟨cur, hh⟩
  · simp at hg
    omega
theorem OwnE.apart {w : World} {b1 b2 e1 e2 s1 s2 n1 n2 : Nat} {v1 v2 : Value} {x1 x2 : List Value} (h1 : OwnE w b1 e1 s1 v1 n1 x1) (h2 : OwnE w b2 e2 s2 v2 n2 x2) (he : e1 ≠ e2) : ∀ g, wrB v1 g → ¬ wrB v2 g := by
  intro g k1 k2
  obtain ⟨c1, j1⟩ := h1.block g k1
  obtain ⟨c2, j2⟩ := h2.block g k2
  rw [j1] at j2
  simp at j2
  exact he j2.2
theorem OwnE.store {w : World} {base e size n g cap : Nat} {xs : List Value} (h : OwnE w base e size (.slice (some ⟨g, 0, none⟩) n cap) n xs) (hc : 0 < cap) (i : Nat) (u : Value) : OwnE (w.setCell ⟨g, i, none⟩ u) base e size (.slice (some ⟨g, 0, none⟩) n cap) n (xs.set i u) := by
  rcases h with h | ⟨_, _, g', hg⟩
  · obtain ⟨hl, ⟨h1, _⟩ | ⟨g', cap', cur, h1, hg, hh, hn, hcap, hsz, htake⟩⟩ := h
    · simp at h1
    · simp at h1
      obtain ⟨rfl, rfl⟩ := h1
      refine .inl ⟨by simpa using hl, .inr ⟨g, cap, cur.setIfInBounds i u, rfl, hg, heap_setCell_same w g i cur e u hh, hn, hcap, by simpa using hsz, ?_⟩⟩
      rw [Array.toList_setIfInBounds, List.take_set, htake]
  · simp at hg
    omega
theorem OwnE.cell {w : World} {base e size n g cap : Nat} {xs : List Value} (h : OwnE w base e size (.slice (some ⟨g, 0, none⟩) n cap) n xs) (i : Nat) (u : Value) (hu : xs[i]? = some u) : w.cell? ⟨g, i, none⟩ = some u ∧ w.frozen? ⟨g, i, none⟩ = false := by
  rcases h with h | ⟨_, h2, _⟩
  · obtain ⟨hl, ⟨h1, _⟩ | ⟨g', cap', cur, h1, hg, hh, hn, hcap, hsz, htake⟩⟩ := h
    · simp at h1
    · simp at h1
      obtain ⟨rfl, rfl⟩ := h1
      refine ⟨?_, frozen_of_row w g i cur e hh⟩
      rw [cell_of_row w g i cur e (0, 0) hh, ← hu, ← htake, ← Array.getElem?_toList]
      have hi : i < xs.length := (List.getElem?_eq_some_iff.1 hu).1
      rw [List.getElem?_take_of_lt (by omega)]
  · rw [h2] at hu
    simp at hu
theorem OwnE.pos {w : World} {base e size n : Nat} {v : Value} {xs : List Value} (h : OwnE w base e size v n xs) (hn : 0 < n) : ∃ g cap, v = .slice (some ⟨g, 0, none⟩) n cap ∧ 0 < cap ∧ n ≤ cap := by
  rcases h with h | ⟨h, _⟩
  · obtain ⟨g, cap, h1, h2, h3⟩ := h.form hn
    refine ⟨g, cap, h1, ?_, ?_⟩
    · obtain ⟨_, ⟨k1, _⟩ | ⟨g', cap', cur, k1, _, _, k4, _⟩⟩ := h
      · rw [h1] at k1; simp at k1
      · rw [h1] at k1; simp at k1; omega
    · obtain ⟨_, ⟨k1, _⟩ | ⟨g', cap', cur, k1, _, _, k4, _⟩⟩ := h
      · rw [h1] at k1; simp at k1
      · rw [h1] at k1; simp at k1; omega
  · omega

variable {n : Nat} {w w' : World} {F : Nat → Prop} {lf : Bool} {p c k b : Value} {T : Tr}

/-- what holds of all rows but some, behind a change of blocks -/
theorem TreeD.rows {P : Nat → Prop} (h : TreeD (n + 1) w F ⟨lf, p, c, k, b⟩ T) (hc : Chg P w w') :
    ((∀ g, wrB p g → ¬ P g) → RowF w' F p T.pairs.length (flatP T.pairs)) ∧ ((∀ g, wrB c g → ¬ P g) → RowF w' F c T.cuts.length (flatI T.cuts)) ∧ ((∀ g, wrB b g → ¬ P g) → RowF w' F b T.buf.length (flatM T.buf)) ∧
    ((∀ g, P g → (wrB p g ∨ wrB c g ∨ wrB b g ∨ wrB k g) ∨ ¬ F g) → (∀ g, wrB k g → ¬ P g) → TreesF n w' F k T.kids) := by
  obtain ⟨h1, h2, h3, h4, h5, xs, K, k1, k2, k3, k4, k5⟩ := h
  simp only at h1 h2 h3 h4 h5 k2 k4
  refine ⟨fun hp => ((h2.chg hc hp).rowF).mono (fun g hg => h5 g (.inl hg)), fun hp => ((h3.chg hc hp).rowF).mono (fun g hg => h5 g (.inr (.inl hg))), fun hp => ((h4.chg hc hp).rowF).mono (fun g hg => h5 g (.inr (.inr (.inl hg)))), fun hP hp => ⟨xs, k1, ((k2.chg hc hp).rowF).mono (fun g hg => h5 g (.inr (.inr (.inr hg)))), fun i hi => ?_⟩⟩
  refine ((k3 i hi).treeF.chg hc (fun g hg hPg => ?_)).mono (fun g hg => (k4 i g hi hg).1)
  rcases hP g hPg with h | h
  · exact (k4 i g hi hg).2 h
  · exact h (k4 i g hi hg).1

theorem mar_buf {m : Int × Int × Int} {b' : Value} (h : TreeD (n + 1) w F ⟨lf, p, c, k, b⟩ T) (ha : AppTo w 0 37 3 b (T.buf.length + 1) (flatM T.buf ++ flatM [m]) b' w') :
    TreeF (n + 1) w' (fun g => F g ∨ w.heap.size ≤ g) ⟨lf, p, c, k, b'⟩ { T with buf := T.buf ++ [m] } := by
  obtain ⟨r1, r2, _, r4⟩ := h.rows ha.2.1
  obtain ⟨h1, h2, h3, h4, h5, xs, K, k1, k2, k3, k4, k5⟩ := h
  refine TreeF.mk h1 ((r1 (h2.apart h4 (by decide))).mono (fun g hg => .inl hg)) ((r2 (h3.apart h4 (by decide))).mono (fun g hg => .inl hg)) ?_ ((r4 (fun g hg => .inl (.inr (.inr (.inl hg)))) (k2.apart h4 (by decide))).mono (fun g hg => .inl hg))
  have := ha.1.rowF.mono (G := fun g => F g ∨ w.heap.size ≤ g) (fun g hg => (ha.2.2.2 g hg).imp (fun h => h5 g (.inr (.inr (.inl h)))) id)
  rw [← flatM_append] at this
  simpa using this
theorem mar_pairs {m : Int × Int} {p' : Value} (h : TreeD (n + 1) w F ⟨lf, p, c, k, b⟩ T) (ha : AppTo w 0 52 2 p (T.pairs.length + 1) (flatP T.pairs ++ flatP [m]) p' w') :
    TreeF (n + 1) w' (fun g => F g ∨ w.heap.size ≤ g) ⟨lf, p', c, k, b⟩ { T with pairs := T.pairs ++ [m] } := by
  obtain ⟨_, r2, r3, r4⟩ := h.rows ha.2.1
  obtain ⟨h1, h2, h3, h4, h5, xs, K, k1, k2, k3, k4, k5⟩ := h
  refine TreeF.mk h1 ?_ ((r2 (h3.apart h2 (by decide))).mono (fun g hg => .inl hg)) ((r3 (h4.apart h2 (by decide))).mono (fun g hg => .inl hg)) ((r4 (fun g hg => .inl (.inl hg)) (k2.apart h2 (by decide))).mono (fun g hg => .inl hg))
  have := ha.1.rowF.mono (G := fun g => F g ∨ w.heap.size ≤ g) (fun g hg => (ha.2.2.2 g hg).imp (fun h => h5 g (.inl h)) id)
  rw [← flatP_append] at this
  simpa using this
theorem wrB_is {g cap m : Nat} (hc : 0 < cap) : ∀ g', wrB (.slice (some ⟨g, 0, none⟩) m cap) g' ↔ g' = g := fun g' => ⟨fun ⟨_, _, h, _⟩ => by simp at h; exact h.1.symm, fun h => h ▸ ⟨_, _, rfl, hc⟩⟩
theorem mar_cut {g cap : Nat} (x : Int) (h : TreeD (n + 1) w F ⟨lf, p, .slice (some ⟨g, 0, none⟩) T.cuts.length cap, k, b⟩ T) (hcap : 0 < cap) :
    TreeF (n + 1) (w.setCell ⟨g, 0, none⟩ (.int .i64 x)) F ⟨lf, p, .slice (some ⟨g, 0, none⟩) T.cuts.length cap, k, b⟩ { T with cuts := T.cuts.set 0 x } := by
  have hc := chg_set1 w g 0 (.int .i64 x)
  obtain ⟨r1, _, r3, r4⟩ := h.rows hc
  obtain ⟨h1, h2, h3, h4, h5, xs, K, k1, k2, k3, k4, k5⟩ := h
  have hw : ∀ g', g' = g → wrB (.slice (some ⟨g, 0, none⟩) T.cuts.length cap) g' := fun g' e => (wrB_is hcap g').2 e
  refine TreeF.mk h1 (r1 (fun g' hg e => h2.apart h3 (by decide) g' hg (hw g' e))) ?_ (r3 (fun g' hg e => h4.apart h3 (by decide) g' hg (hw g' e))) (r4 (fun g' e => .inl (.inr (.inl (hw g' e)))) (fun g' hg e => k2.apart h3 (by decide) g' hg (hw g' e)))
  have := (h3.store hcap 0 (.int .i64 x)).rowF.mono (G := F) (fun g' hg => h5 g' (.inr (.inl hg)))
  rw [show (flatI T.cuts).set 0 (.int .i64 x) = flatI (T.cuts.set 0 x) by simp [flatI, List.map_set]] at this
  simpa using this
theorem mar_kid {g cap : Nat} {y : TV} {U : Tr} {F' : Nat → Prop} (h : TreeD (n + 1) w F ⟨lf, p, c, .slice (some ⟨g, 0, none⟩) T.kids.length cap, b⟩ T) (hcap : 0 < cap) (hk : 0 < T.kids.length) (hy : TreeF n w F' y U) (hF : ¬ F' g) :
    TreeF (n + 1) (set5 w g (.bool y.lf) y.p y.c y.k y.b) (fun g => F g ∨ F' g) ⟨lf, p, c, .slice (some ⟨g, 0, none⟩) T.kids.length cap, b⟩ { T with kids := T.kids.set 0 U } := by
  have hc := chg_set5 w g (.bool y.lf) y.p y.c y.k y.b
  obtain ⟨r1, r2, r3, _⟩ := h.rows hc
  obtain ⟨h1, h2, h3, h4, h5, xs, K, k1, k2, k3, k4, k5⟩ := h
  simp only at h1 h2 h3 h4 h5 k2 k4
  have hw : ∀ g', g' = g → wrB (.slice (some ⟨g, 0, none⟩) T.kids.length cap) g' := fun g' e => (wrB_is hcap g').2 e
  rw [k1] at k2
  refine TreeF.mk h1 ((r1 (fun g' hg e => h2.apart k2 (by decide) g' hg (hw g' e))).mono (fun g hg => .inl hg)) ((r2 (fun g' hg e => h3.apart k2 (by decide) g' hg (hw g' e))).mono (fun g hg => .inl hg)) ((r3 (fun g' hg e => h4.apart k2 (by decide) g' hg (hw g' e))).mono (fun g hg => .inl hg)) ⟨xs.set 0 y, by simp [k1], ?_, fun i hi => ?_⟩
  · have := (((((k2.store hcap 0 (.bool y.lf)).store hcap 1 y.p).store hcap 2 y.c).store hcap 3 y.k).store hcap 4 y.b).rowF.mono (G := fun g => F g ∨ F' g) (fun g' hg => .inl (h5 g' (.inr (.inr (.inr hg)))))
    have e := flatT_set xs y 0 (by omega)
    simp only [Nat.zero_mul, Nat.zero_add] at e
    rw [e] at this
    simpa [k1] using this
  · rw [List.length_set] at hi
    rcases Nat.eq_zero_or_pos i with h0 | h0
    · subst h0
      have e1 : tvAt (xs.set 0 y) 0 = y := by simp [tvAt, List.getD, hi]
      have e2 : (T.kids.set 0 U).getD 0 noTr = U := by simp [List.getD, hk]
      rw [e1, e2]
      exact (hy.chg hc (fun g' hg e => hF (e ▸ hg))).mono (fun g hg => .inr hg)
    · have e1 : tvAt (xs.set 0 y) i = tvAt xs i := by simp [tvAt, List.getD, List.getElem?_set_ne (by omega : (0 : Nat) ≠ i)]
      have e2 : (T.kids.set 0 U).getD i noTr = T.kids.getD i noTr := by simp [List.getD, List.getElem?_set_ne (by omega : (0 : Nat) ≠ i)]
      rw [e1, e2]
      refine ((k3 i hi).treeF.chg hc (fun g' hg e => ?_)).mono (fun g hg => .inl (k4 i g hi hg).1)
      exact (k4 i g' hi hg).2 (.inr (.inr (.inr (hw g' e))))
theorem mar_leaf (h : TreeD (n + 1) w F ⟨lf, p, c, k, b⟩ T) (hc : Chg (fun g => ¬ F g) w w') : TreeF (n + 1) w' F ⟨!lf, p, c, k, b⟩ { T with leaf := !T.leaf } := by
  obtain ⟨h1, h2, h3, h4, h5⟩ := (h.treeF.chg hc (fun g hg k => k hg)).parts
  simp only at h1 h2 h3 h4 h5
  exact TreeF.mk (by simp [h1]) h2 h3 h4 h5

theorem sum_set0 (f : Tr → Nat) (U : Tr) : ∀ l : List Tr, ((l.set 0 U).map f).sum ≤ (l.map f).sum + f U
  | [] => by simp
  | t :: l => by simp; omega

theorem size_buf (n : Nat) (T : Tr) (m : Int × Int × Int) : sizeT (n + 1) { T with buf := T.buf ++ [m] } = sizeT (n + 1) T + 1 := by
  simp only [sizeT, List.length_append, List.length_cons, List.length_nil]; omega
theorem size_pairs (n : Nat) (T : Tr) (m : Int × Int) : sizeT (n + 1) { T with pairs := T.pairs ++ [m] } = sizeT (n + 1) T + 1 := by
  simp only [sizeT, List.length_append, List.length_cons, List.length_nil]; omega
theorem size_cut (n : Nat) (T : Tr) (x : Int) : sizeT (n + 1) { T with cuts := T.cuts.set 0 x } = sizeT (n + 1) T := by
  simp only [sizeT, List.length_set]
theorem size_leaf (n : Nat) (T : Tr) (x : Bool) : sizeT (n + 1) { T with leaf := x } = sizeT (n + 1) T := rfl
theorem size_kid0 (n : Nat) (T U : Tr) : sizeT (n + 1) { T with kids := T.kids.set 0 U } ≤ sizeT (n + 1) T + sizeT n U := by
  have := sum_set0 (sizeT n) U T.kids
  simp only [sizeT, List.length_set]
  omega

end Go.Proofs.YtmpiijphpnjlnaaGreat
