/-
  Open as plain data: what the supers tell one after the other.
-/
import Derived.Test.YtckphbmlmjlipaaDoorReadLaw
namespace Go.Proofs.YtckphbmlmjlipaaDoor
open Go.RowKit

/-- the newest tree of the first j supers, and its version -/
def openSt (l : List ByteArray) (S : List (Int × Int)) : Nat → Option Tr × Int
  | 0 => (none, 0)
  | j + 1 => match readT l (vOf S j) with
    | none => openSt l S j
    | some T => if (openSt l S j).2 < kOf S j then (some T, kOf S j) else openSt l S j
theorem openSt_none {l : List ByteArray} {S : List (Int × Int)} {j : Nat} (h : readT l (vOf S j) = none) : openSt l S (j + 1) = openSt l S j := by rw [openSt, h]
theorem openSt_old {l : List ByteArray} {S : List (Int × Int)} {j : Nat} (h : ¬ (openSt l S j).2 < kOf S j) : openSt l S (j + 1) = openSt l S j := by
  rw [openSt]
  cases readT l (vOf S j) with
  | none => rfl
  | some T => simp only [h, if_false]
theorem openSt_new {l : List ByteArray} {S : List (Int × Int)} {j : Nat} {T : Tr} (h : readT l (vOf S j) = some T) (hv : (openSt l S j).2 < kOf S j) : openSt l S (j + 1) = (some T, kOf S j) := by
  rw [openSt, h]
  simp only [hv, if_true]
theorem openSt_small (l : List ByteArray) (S : List (Int × Int)) : ∀ j, mkT 7 ((openSt l S j).1.getD noneT) ≤ 245760
  | 0 => by show mkT 7 noneT ≤ _; have : mkT 7 noneT = 0 := by decide
            omega
  | j + 1 => by
    cases hr : readT l (vOf S j) with
    | none => rw [openSt_none hr]; exact openSt_small l S j
    | some T =>
      by_cases hv : (openSt l S j).2 < kOf S j
      · rw [openSt_new hr hv]
        have := readT_small l (vOf S j)
        rw [hr] at this
        exact this
      · rw [openSt_old hv]; exact openSt_small l S j
/-- what Open answers -/
def OpenRd (base : Nat) (g : Option Tr × Int) (e : Ending) (w' : World) : Prop := ∃ x : TV, e = .returned (.tuple #[x.val, .int .i64 g.2, .bool (decide (g.2 > 0))]) ∧ TreeD 7 w' (Zone base w'.heap.size) x (g.1.getD noneT)
theorem zeroD (w : World) (F : Nat → Prop) : TreeD 7 w F ⟨false, .slice none 0 0, .slice none 0 0, .slice none 0 0, .slice none 0 0⟩ noneT := by
  refine ⟨rfl, OwnE.nil _ _ _ _, OwnE.nil _ _ _ _, OwnE.nil _ _ _ _, fun g hg => ?_, [], fun _ _ => False, rfl, OwnE.nil _ _ _ _, fun i hi => by simp at hi, fun i g hi => by simp at hi, fun i j g _ hj => by simp at hj⟩
  rcases hg with h | h | h | h <;> exact (wrB_nil g h).elim

end Go.Proofs.YtckphbmlmjlipaaDoor
