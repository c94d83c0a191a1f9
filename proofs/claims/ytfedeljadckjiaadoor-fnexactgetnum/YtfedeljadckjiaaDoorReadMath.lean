/-
  A number read from its bytes, as a plain function: the form read byte by byte.
-/
import Derived.Test.YtfedeljadckjiaaDoorByteT
namespace Go.Proofs.YtfedeljadckjiaaDoor
open Go.RowKit

def numN (c : Int) : Int := if c % 2 = 1 then -((c + 1) / 2) else c / 2
def unitN : Nat → Int
  | 0 => 1
  | j + 1 => 128 * unitN j
/-- the code, and how many bytes: fuel, unit, what was read -/
def readC : Nat → Int → Int → List Int → Option (Int × Nat)
  | 0, _, _, _ => none
  | _ + 1, _, _, [] => none
  | f + 1, u, c, b :: r =>
    if b < 128 then (if (0 < b ∨ u = 1) ∧ c + b % 128 * u ≤ 4000000000 then some (c + b % 128 * u, 1) else none)
    else (readC f (u * 128) (c + b % 128 * u) r).map fun p => (p.1, p.2 + 1)
/-- the bytes from a place on -/
def fromB (bs : List Int) (at_ : Int) : List Int := if at_ < 0 then [] else bs.drop at_.toNat
/-- the number at a place, and the place behind it -/
def getN (bs : List Int) (at_ : Int) : Option (Int × Int) := (readC 5 1 0 (fromB bs at_)).map fun p => (numN p.1, at_ + p.2)

structure Reading (bs : List Int) (at_ : Int) (j : Nat) (u c : Int) : Prop where
  le : j ≤ 5
  unit : u = unitN j
  low : 0 ≤ c
  high : c < u
  all : readC 5 1 0 (fromB bs at_) = (readC (5 - j) u c ((fromB bs at_).drop j)).map fun p => (p.1, p.2 + j)
  pos : j = 0 ∨ 0 ≤ at_

theorem Reading.start (bs : List Int) (at_ : Int) : Reading bs at_ 0 1 0 := by
  refine ⟨by omega, rfl, by omega, by omega, ?_, .inl rfl⟩
  simp only [Nat.sub_zero, List.drop_zero, Nat.add_zero]
  cases readC 5 1 0 (fromB bs at_) <;> rfl
theorem unitN_in {j : Nat} (h : j ≤ 5) : 1 ≤ unitN j ∧ unitN j ≤ 34359738368 ∧ (unitN j ≤ 4000000000 ↔ j < 5) ∧ (unitN j = 1 ↔ j = 0) := by
  match j, h with
  | 0, _ => simp [unitN]
  | 1, _ => simp [unitN]
  | 2, _ => simp [unitN]
  | 3, _ => simp [unitN]
  | 4, _ => simp [unitN]
  | 5, _ => simp [unitN]
theorem fromB_here {bs : List Int} {at_ : Int} {j : Nat} (h0 : 0 ≤ at_) (h : at_ + j < bs.length) : (fromB bs at_).drop j = byOf bs (at_.toNat + j) :: (fromB bs at_).drop (j + 1) := by
  unfold fromB
  rw [if_neg (by omega), List.drop_drop, List.drop_drop]
  have hlt : at_.toNat + j < bs.length := by omega
  rw [List.drop_eq_getElem_cons hlt]
  simp [byOf, List.getD, hlt, Nat.add_assoc]
theorem fromB_end {bs : List Int} {at_ : Int} {j : Nat} (hp : j = 0 ∨ 0 ≤ at_) (h : ¬ (0 ≤ at_ + j ∧ at_ + j < bs.length)) : (fromB bs at_).drop j = [] := by
  unfold fromB
  split
  · simp
  · rw [List.drop_drop, List.drop_eq_nil_iff]
    rcases hp with rfl | hp <;> omega

theorem mul_in {b u : Int} (hu : 1 ≤ u) : 0 ≤ b % 128 * u ∧ b % 128 * u ≤ 127 * u := by
  have h1 : 0 ≤ b % 128 := by omega
  have h2 : b % 128 ≤ 127 := by omega
  exact ⟨Int.mul_nonneg h1 (by omega), Int.mul_le_mul_of_nonneg_right h2 (by omega)⟩

variable {bs : List Int} {at_ : Int} {j : Nat} {u c : Int}

/-- no byte is left -/
theorem Reading.over (h : Reading bs at_ j u c) (hx : j = 5 ∨ ¬ (0 ≤ at_ + j ∧ at_ + j < bs.length)) : getN bs at_ = none := by
  unfold getN
  rw [h.all]
  rcases hx with rfl | hx
  · rfl
  · rw [fromB_end h.pos hx]
    rcases hj : 5 - j with _ | f
    · rfl
    · rfl
theorem Reading.pos' (hx : 0 ≤ at_ + j) (hj : j = 0 ∨ 0 ≤ at_) : 0 ≤ at_ := by
  rcases hj with rfl | h0
  · simpa using hx
  · exact h0
/-- one byte more -/
theorem Reading.step (h : Reading bs at_ j u c) (hj : j < 5) (h0 : 0 ≤ at_) (hx : at_ + j < bs.length) {b : Int} (hb : b = byOf bs (at_.toNat + j)) (hb1 : 128 ≤ b) : Reading bs at_ (j + 1) (u * 128) (c + b % 128 * u) := by
  have hu := unitN_in h.le
  rw [← h.unit] at hu
  have hm := mul_in (b := b) hu.1
  have hl := h.low
  have hh := h.high
  refine ⟨by omega, ?_, by omega, by omega, ?_, .inr h0⟩
  · rw [h.unit]; simp [unitN]; omega
  · rw [h.all, fromB_here h0 hx, ← hb, show 5 - j = (5 - (j + 1)) + 1 by omega, readC, if_neg (by omega)]
    cases readC (5 - (j + 1)) (u * 128) (c + b % 128 * u) ((fromB bs at_).drop (j + 1)) with
    | none => rfl
    | some p => simp [Nat.add_assoc, Nat.add_comm 1 j]
theorem Reading.stop (h : Reading bs at_ j u c) (hj : j < 5) (h0 : 0 ≤ at_) (hx : at_ + j < bs.length) {b : Int} (hb : b = byOf bs (at_.toNat + j)) (hb1 : b < 128) :
    getN bs at_ = if (0 < b ∨ u = 1) ∧ c + b % 128 * u ≤ 4000000000 then some (numN (c + b % 128 * u), at_ + j + 1) else none := by
  unfold getN
  rw [h.all, fromB_here h0 hx, ← hb, show 5 - j = (5 - (j + 1)) + 1 by omega, readC, if_pos hb1]
  split
  · simp; omega
  · rfl

theorem numN_in {c : Int} (h0 : 0 ≤ c) : (-2000000000 ≤ numN c ∧ numN c ≤ 2000000000) ↔ c ≤ 4000000000 := by
  unfold numN; split <;> omega
theorem numN_odd {c : Int} (h : c % 2 = 1) : numN c = 0 - c / 2 - 1 := by simp only [numN, h, if_true]; omega
theorem numN_even {c : Int} (h : ¬ c % 2 = 1) : numN c = c / 2 := by simp only [numN, h, if_false]
theorem putN_none {x : Int} : (putN x).length = 0 ↔ ¬ (-2000000000 ≤ x ∧ x ≤ 2000000000) := by
  constructor
  · intro h hx
    rw [putN_in hx.1 hx.2] at h
    have := sevens_pos 4 (codeN x)
    omega
  · intro h; rw [putN_out h]; rfl

end Go.Proofs.YtfedeljadckjiaaDoor
