/-
  The marks of what GetNode tells: written, and looked for.
-/
import Derived.Test.YtfedeljadckjiaaDoorMarkK
import Derived.Test.YtfedeljadckjiaaDoorSTest
import Derived.Test.YtfedeljadckjiaaDoorNode
namespace Go.Proofs.YtfedeljadckjiaaDoor
open Go.RowKit

def treeG : Option NodeV → Tr
  | none => ⟨false, [], [], [], []⟩
  | some n => treeV n
def kidsG : Option NodeV → List Int
  | none => []
  | some n => kidsV n
/-- the program's answer, in memory of its own -/
def AnsV (base : Nat) (w : World) (vt vk : Value) : Option NodeV → Prop
  | none => vt = treeZ ∧ vk = .slice none 0 0
  | some n => NodeAt base w vt vk n ∧ okV n
theorem AnsV.below {base : Nat} {w w' : World} {vt vk : Value} {g : Option NodeV} (h : AnsV base w vt vk g) (hb : Below w.heap.size w w') : AnsV base w' vt vk g := by
  cases g with
  | none => exact h
  | some n => exact ⟨h.1.chg (Chg.of_below (F := fun _ => False) hb) (fun _ h => h.elim), h.2⟩
theorem AnsV.chg {F : Nat → Prop} {base : Nat} {w w' : World} {vt vk : Value} {g : Option NodeV} (h : AnsV base w vt vk g) (hc : Chg F w w') (hF : ∀ g, F g → g < base) : AnsV base w' vt vk g := by
  cases g with
  | none => exact h
  | some n => exact ⟨h.1.chg hc hF, h.2⟩
theorem made_trees (n : Nat) : (madeCells #[.bool false, .slice none 0 0, .slice none 0 0, .slice none 0 0, .slice none 0 0] (n * 5)).toList = flatT (List.replicate n zeroTV) := by
  apply List.ext_getElem?
  intro j
  by_cases hj : j < n * 5
  · have hi : j / 5 < (List.replicate n zeroTV).length := by simp; omega
    have hat := flatT_at (List.replicate n zeroTV) (j / 5) hi
    have hz : tvAt (List.replicate n zeroTV) (j / 5) = zeroTV := by simp [tvAt, List.getD, show j / 5 < n by omega]
    rw [hz] at hat
    simp only [zeroTV] at hat
    have hc : (madeCells #[.bool false, .slice none 0 0, .slice none 0 0, .slice none 0 0, .slice none 0 0] (n * 5)).toList[j]? = some ((#[.bool false, .slice none 0 0, .slice none 0 0, .slice none 0 0, .slice none 0 0] : Array Value)[j % 5]!) := by simp [madeCells, hj]
    rw [hc]
    rcases (show j % 5 = 0 ∨ j % 5 = 1 ∨ j % 5 = 2 ∨ j % 5 = 3 ∨ j % 5 = 4 by omega) with h | h | h | h | h
    · rw [h, ← (show j / 5 * 5 = j by omega)]; exact hat.1.symm
    · rw [h, ← (show j / 5 * 5 + 1 = j by omega)]; exact hat.2.1.symm
    · rw [h, ← (show j / 5 * 5 + 2 = j by omega)]; exact hat.2.2.1.symm
    · rw [h, ← (show j / 5 * 5 + 3 = j by omega)]; exact hat.2.2.2.1.symm
    · rw [h, ← (show j / 5 * 5 + 4 = j by omega)]; exact hat.2.2.2.2.symm
  · rw [List.getElem?_eq_none (by simp [madeCells]; omega), List.getElem?_eq_none (by rw [flatT_length]; simp; omega)]
theorem kids_own {w : World} {M n : Nat} (h : w.heap[M]? = some (.cells (madeCells #[.bool false, .slice none 0 0, .slice none 0 0, .slice none 0 0, .slice none 0 0] (n * 5)) 29 (0, 0))) (hn : n ≤ 10) : w.ownsRow M 29 5 (.slice (some ⟨M, 0, none⟩) n n) n (flatT (List.replicate n zeroTV)) := by
  refine ⟨by rw [flatT_length]; simp, .inr ⟨M, n, _, rfl, Nat.le_refl _, h, Nat.le_refl _, by unfold maxLen; omega, by simp [madeCells], ?_⟩⟩
  rw [made_trees, List.take_of_length_le (by rw [flatT_length]; simp)]
theorem rowZ (w : World) : Row w (.slice none 0 0) 0 [] := ⟨none, 0, 0, 0, rfl, Nat.le_refl _, Nat.zero_le _, fun h => absurd h (Nat.lt_irrefl _), fun j u hj => by simp at hj, fun _ => rfl⟩
/-- the answer is that tree, and those numbers -/
theorem AnsV.tree {base : Nat} {w : World} {vt vk : Value} {g : Option NodeV} (h : AnsV base w vt vk g) : (∃ x : TV, vt = x.val ∧ TreeAt 2 w x (treeG g)) ∧ Row w vk (kidsG g).length (flatI (kidsG g)) := by
  have rn := rowZ w
  cases g with
  | none =>
    obtain ⟨rfl, rfl⟩ := h
    exact ⟨⟨⟨false, .slice none 0 0, .slice none 0 0, .slice none 0 0, .slice none 0 0⟩, rfl, TreeAt.mk rfl rn rn rn ⟨[], rfl, rn, fun i hi => absurd hi (Nat.not_lt_zero _)⟩⟩, rn⟩
  | some nv =>
    obtain ⟨h, hok⟩ := h
    cases nv with
    | inl l =>
      obtain ⟨vp, rfl, rfl, o⟩ := h
      exact ⟨⟨⟨true, vp, .slice none 0 0, .slice none 0 0, .slice none 0 0⟩, rfl, TreeAt.mk rfl o.row' rn rn ⟨[], rfl, rn, fun i hi => absurd hi (Nat.not_lt_zero _)⟩⟩, rn⟩
    | inr f =>
      obtain ⟨vc, vb, M, N, rfl, h2, h3, h4, h5, h6, h7, h8⟩ := h
      have ok := kids_own h8 (by have := hok.2.1; omega)
      refine ⟨⟨⟨false, .slice none 0 0, vc, .slice (some ⟨M, 0, none⟩) f.kids.length f.kids.length, vb⟩, rfl, TreeAt.mk rfl rn (Row.of_owns h5) h6.row' ⟨List.replicate f.kids.length zeroTV, by simp [treeG, treeV], ?_, ?_⟩⟩, Row.of_owns h3⟩
      · rw [List.length_replicate]; exact Row.of_owns ok
      · intro i hi
        rw [List.length_replicate] at hi
        have e1 : tvAt (List.replicate f.kids.length zeroTV) i = zeroTV := by simp [tvAt, List.getD, hi]
        have e2 : (treeG (some (.inr f))).kids.getD i noTr = ⟨false, [], [], [], []⟩ := by simp [treeG, treeV, List.getD, hi]
        rw [e1, e2]
        exact TreeAt.mk rfl rn rn rn ⟨[], rfl, rn, fun i hi => absurd hi (Nat.not_lt_zero _)⟩
/-- how many marks the tree takes, and the numbers -/
def mtN : Option NodeV → Int
  | none => 0
  | some (.inl l) => 2 * l.length
  | some (.inr f) => f.cuts.length + f.kids.length + 3 * f.buf.length
def AnsT (base : Nat) (w : World) (vt vk : Value) : Option NodeV → Prop
  | none => vt = treeZ ∧ vk = .slice none 0 0
  | some (.inl l) => ∃ vp, vt = .agg #[.bool true, vp, .slice none 0 0, .slice none 0 0, .slice none 0 0] ∧ vk = .slice none 0 0 ∧ Row w vp l.length (flatP (marksP 1 l.length)) ∧ l.length ≤ 10
  | some (.inr f) => ∃ (vc vb : Value) (M N : Nat), vt = .agg #[.bool false, .slice none 0 0, vc, .slice (some ⟨M, 0, none⟩) f.kids.length f.kids.length, vb] ∧ (f.kids.length ≤ 10 ∧ f.cuts.length ≤ 10 ∧ f.buf.length ≤ 10) ∧ base ≤ N ∧
      OwnI base w vk f.kids ∧ (∀ g, vk.ownBlock = some g → g < N) ∧ OwnI N w vc (marksI 1 f.cuts.length) ∧ OwnE w N 75 3 vb f.buf.length (flatM (marksM (1 + f.cuts.length + f.kids.length) f.buf.length)) ∧ w.ownsRow N 29 5 (.slice (some ⟨M, 0, none⟩) f.kids.length f.kids.length) f.kids.length (flatT (marksK (1 + f.cuts.length) f.kids.length))
def AnsM (w : World) (vt vk : Value) : Option NodeV → Prop
  | none => vt = treeZ ∧ vk = .slice none 0 0
  | some (.inl l) => ∃ vp, vt = .agg #[.bool true, vp, .slice none 0 0, .slice none 0 0, .slice none 0 0] ∧ vk = .slice none 0 0 ∧ Row w vp l.length (flatP (marksP 1 l.length)) ∧ l.length ≤ 10
  | some (.inr f) => ∃ (vc vb vm : Value), vt = .agg #[.bool false, .slice none 0 0, vc, vm, vb] ∧ (f.kids.length ≤ 10 ∧ f.cuts.length ≤ 10 ∧ f.buf.length ≤ 10) ∧
      Row w vk f.kids.length (flatI (marksI (1 + f.cuts.length + f.kids.length + 3 * f.buf.length) f.kids.length)) ∧ Row w vc f.cuts.length (flatI (marksI 1 f.cuts.length)) ∧ Row w vb f.buf.length (flatM (marksM (1 + f.cuts.length + f.kids.length) f.buf.length)) ∧ Row w vm f.kids.length (flatT (marksK (1 + f.cuts.length) f.kids.length))
theorem AnsM.below {w w' : World} {vt vk : Value} {g : Option NodeV} (h : AnsM w vt vk g) (hb : Below w.heap.size w w') : AnsM w' vt vk g := by
  cases g with
  | none => exact h
  | some nv => cases nv with
    | inl l =>
      obtain ⟨vp, h1, h2, h3, h4⟩ := h
      exact ⟨vp, h1, h2, h3.below hb, h4⟩
    | inr f =>
      obtain ⟨vc, vb, vm, h1, h2, h3, h4, h5, h6⟩ := h
      exact ⟨vc, vb, vm, h1, h2, h3.below hb, h4.below hb, h5.below hb, h6.below hb⟩

end Go.Proofs.YtfedeljadckjiaaDoor
