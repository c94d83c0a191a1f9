/-
  Trees side by side that are being put together: the row of trees and the row of cuts are one's own, the trees lie elsewhere.
-/
import Derived.Test.YtmpiijphpnjlnaaGreatPut
import Derived.Test.YtmpiijphpnjlnaaGreatFloat
namespace Go.Proofs.YtmpiijphpnjlnaaGreat
open Go.RowKit

/-- where the trees of a row lie, that is being appended to -/
abbrev offB (G : Nat → Prop) (vt vc : Value) (b : Nat) : Prop := G b ∧ ¬ wrB vt b ∧ ¬ wrB vc b
/-- TREES AND CUTS THAT ARE BEING PUT TOGETHER. -/
def OutM (n s : Nat) (G : Nat → Prop) (w : World) (vt vc : Value) (ts : List Tr) (cs : List Int) : Prop :=
  ∃ xs : List TV, xs.length = ts.length ∧ OwnE w s 29 5 vt xs.length (flatT xs) ∧ OwnE w s 3 1 vc cs.length (flatI cs) ∧ (∀ g, wrB vt g → ¬ wrB vc g) ∧
    ∀ i, i < xs.length → TreeF n w (offB G vt vc) (tvAt xs i) (ts.getD i noTr)

variable {n s : Nat} {G : Nat → Prop} {w w' : World} {vt vc vt' vc' : Value} {ts us : List Tr} {cs : List Int}

theorem OutM.nil (n s : Nat) (G : Nat → Prop) (w : World) : OutM n s G w (.slice none 0 0) (.slice none 0 0) [] [] :=
  ⟨[], rfl, OwnE.nil _ _ _ _, OwnE.nil _ _ _ _, fun g h => absurd h (wrB_nil g), fun i hi => by simp at hi⟩
theorem OutM.shape (h : OutM n s G w vt vc ts cs) : ∃ (a : Option Addr) (q : Nat) (a' : Option Addr) (q' : Nat), vt = .slice a ts.length q ∧ vc = .slice a' cs.length q' := by
  obtain ⟨xs, h1, h2, h3, _⟩ := h
  obtain ⟨a, q, e⟩ := h2.slice
  obtain ⟨a', q', e'⟩ := h3.slice
  rw [h1] at e
  exact ⟨a, q, a', q', e, e'⟩
theorem OutM.chg {p : Nat → Prop} (h : OutM n s G w vt vc ts cs) (hc : Chg p w w') (hp : ∀ g, p g → ¬ G g ∧ g < s) : OutM n s G w' vt vc ts cs := by
  obtain ⟨xs, h1, h2, h3, h4, h5⟩ := h
  refine ⟨xs, h1, h2.chg hc (fun g hg k => ?_), h3.chg hc (fun g hg k => ?_), h4, fun i hi => (h5 i hi).chg hc (fun g hg k => (hp g k).1 hg.1)⟩
  · have := (h2.lt g hg).1
    have := (hp g k).2
    omega
  · have := (h3.lt g hg).1
    have := (hp g k).2
    omega
theorem OutM.below (h : OutM n s G w vt vc ts cs) (hb : Below w.heap.size w w') : OutM n s G w' vt vc ts cs :=
  h.chg (Chg.of_below (F := fun _ => False) hb) (fun _ h => h.elim)
theorem OutM.alloc (h : OutM n s G w vt vc ts cs) (o : Obj) : OutM n s G (w.alloc o) vt vc ts cs := h.below (al1 w o)
theorem OutM.drew (h : OutM n s G w vt vc ts cs) : OutM n s G w.drew vt vc ts cs := h.below (Below.refl _ _).drew
/-- the rows' own laws, for the appends -/
theorem OutM.rowC (h : OutM n s G w vt vc ts cs) : OwnE w s 3 1 vc cs.length (flatI cs) := by
  obtain ⟨xs, h1, h2, h3, _⟩ := h
  exact h3
/-- a row of cuts is added -/
theorem OutM.addC (h : OutM n s G w vt vc ts cs) {ds : List Int} (a : AppTo w s 3 1 vc (cs.length + ds.length) (flatI cs ++ flatI ds) vc' w') : OutM n s G w' vt vc' ts (cs ++ ds) := by
  obtain ⟨xs, h1, h2, h3, h4, h5⟩ := h
  obtain ⟨a1, a2, a3, a4⟩ := a
  refine ⟨xs, h1, h2.chg a2 (fun g hg k => h4 g hg k), by rw [List.length_append, flatI_append]; exact a1, fun g hg k => ?_, fun i hi => ?_⟩
  · rcases a4 g k with k | k
    · exact h4 g hg k
    · have := (h2.lt g hg).2
      omega
  · have := ((h5 i hi).lt).chg a2 (fun g hg k => hg.1.2.2 k)
    refine this.mono fun g hg => ⟨hg.1.1, hg.1.2.1, fun k => ?_⟩
    rcases a4 g k with k | k
    · exact hg.1.2.2 k
    · have := hg.2
      omega
/-- a row of trees is added, that lie elsewhere -/
theorem OutM.addT (h : OutM n s G w vt vc ts cs) {ys : List TV} {m : Nat} (hm : m = ys.length) (hl : ys.length = us.length) (he : ∀ i, i < ys.length → TreeF n w (offB G vt vc) (tvAt ys i) (us.getD i noTr))
    {xs : List TV} (hx : xs.length = ts.length) (hx3 : ∀ i, i < xs.length → TreeF n w (offB G vt vc) (tvAt xs i) (ts.getD i noTr))
    (a : AppTo w s 29 5 vt (xs.length + m) (flatT xs ++ flatT ys) vt' w') : OutM n s G w' vt' vc (ts ++ us) cs := by
  subst hm
  obtain ⟨_, _, _, h3, h4, _⟩ := h
  obtain ⟨a1, a2, a3, a4⟩ := a
  refine ⟨xs ++ ys, by simp [hx, hl], by rw [List.length_append, flatT_append]; exact a1, h3.chg a2 (fun g hg k => h4 g k hg), fun g hg k => ?_, fun i hi => ?_⟩
  · rcases a4 g hg with hg | hg
    · exact h4 g hg k
    · have := (h3.lt g k).2
      omega
  · have key : ∀ {x : TV} {T : Tr}, TreeF n w (offB G vt vc) x T → TreeF n w' (offB G vt' vc) x T := fun t => by
      refine ((t.lt).chg a2 (fun g hg k => hg.1.2.1 k)).mono fun g hg => ⟨hg.1.1, fun k => ?_, hg.1.2.2⟩
      rcases a4 g k with k | k
      · exact hg.1.2.1 k
      · have := hg.2
        omega
    rw [List.length_append] at hi
    by_cases hxi : i < xs.length
    · have e1 : tvAt (xs ++ ys) i = tvAt xs i := by simp [tvAt, List.getD, List.getElem?_append_left hxi]
      have e2 : (ts ++ us).getD i noTr = ts.getD i noTr := by simp [List.getD, List.getElem?_append_left (hx ▸ hxi : i < ts.length)]
      rw [e1, e2]
      exact key (hx3 i hxi)
    · have e1 : tvAt (xs ++ ys) i = tvAt ys (i - xs.length) := by simp [tvAt, List.getD, List.getElem?_append_right (Nat.le_of_not_lt hxi)]
      have e2 : (ts ++ us).getD i noTr = us.getD (i - xs.length) noTr := by simp [List.getD, List.getElem?_append_right (hx ▸ (Nat.le_of_not_lt hxi) : ts.length ≤ i), hx]
      rw [e1, e2]
      exact key (he _ (by omega))
theorem OutM.trees (h : OutM n s G w vt vc ts cs) (hG : ∀ g, s ≤ g → G g) : TreesF n w G vt ts ∧ RowF w G vc cs.length (flatI cs) := by
  obtain ⟨xs, h1, h2, h3, h4, h5⟩ := h
  exact ⟨⟨xs, h1, (h2.rowF).mono (fun g hg => hG g (h2.lt g hg).1), fun i hi => (h5 i hi).mono fun g hg => hg.1⟩, (h3.rowF).mono (fun g hg => hG g (h3.lt g hg).1)⟩

/-- the five cells of a tree's struct have one cell each -/
theorem tv_one {a1 a2 a3 a4 : Option Addr} {l : Bool} {n1 n2 n3 n4 q1 q2 q3 q4 : Nat} : ∀ y ∈ [Value.bool l, .slice a1 n1 q1, .slice a2 n2 q2, .slice a3 n3 q3, .slice a4 n4 q4], y.oneCell' = true := by
  intro y hy
  simp at hy
  rcases hy with rfl | rfl | rfl | rfl | rfl <;> rfl
theorem RowF.laid (W : World) (xs : List Value) (e B : Nat) (hB : B = W.heap.size) : RowF (W.alloc (.cells xs.toArray e)) (fun g => g = B) (.slice (some ⟨B, 0, none⟩) 1 1) 1 xs := by
  subst hB
  refine ⟨_, W.heap.size, 0, 1, rfl, Nat.le_refl _, by decide, fun _ => ⟨rfl, rfl⟩, fun j u hj => ?_, (fun h => by cases h), fun h => by omega⟩
  rw [Nat.zero_add, cell_of_cells (heap_alloc_new W _)]
  simpa using hj
theorem tvAt_one (y : TV) : tvAt [y] 0 = y := rfl

end Go.Proofs.YtmpiijphpnjlnaaGreat
