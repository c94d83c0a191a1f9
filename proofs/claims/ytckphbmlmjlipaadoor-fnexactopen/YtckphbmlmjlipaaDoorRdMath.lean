/-
  Reading a tree out of pages, as plain data.
-/
import Derived.Test.YtckphbmlmjlipaaDoorPart5
namespace Go.Proofs.YtckphbmlmjlipaaDoor
open Go.RowKit

/-- the kids of a node, each read by g; nothing if one of them isn't there -/
def kidsR (g : Int → Option Tr) : List Int → Option (List Tr)
  | [] => some []
  | k :: ks => match g k with
    | none => none
    | some t => match kidsR g ks with
      | none => none
      | some ts => some (t :: ts)
/-- the tree whose root is page a, at most d deep -/
def readR (pg : List (List Int)) : Nat → Int → Option Tr
  | 0, _ => none
  | d + 1, a => if 0 ≤ a ∧ a < (pg.length : Int) then
      match getNodeF (pg.getD a.toNat []) with
      | none => none
      | some (.inl l) => some ⟨true, l, [], [], []⟩
      | some (.inr f) => match kidsR (readR pg d) f.kids with
        | none => none
        | some ts => some ⟨false, [], f.cuts, ts, f.buf⟩
    else none

theorem kidsR_cons {g : Int → Option Tr} {k : Int} {ks : List Int} {ts : List Tr} (h : kidsR g (k :: ks) = some ts) : ∃ t us, g k = some t ∧ kidsR g ks = some us ∧ ts = t :: us := by
  rw [kidsR] at h
  split at h
  · cases h
  · rename_i t ht
    split at h
    · cases h
    · rename_i us hu
      cases h
      exact ⟨t, us, ht, hu, rfl⟩
theorem kidsR_length {g : Int → Option Tr} : ∀ {ks : List Int} {ts : List Tr}, kidsR g ks = some ts → ts.length = ks.length
  | [], _, h => by cases h; rfl
  | _ :: _, _, h => by
    obtain ⟨t, us, _, h2, rfl⟩ := kidsR_cons h
    simp [kidsR_length h2]
theorem kidsR_at {g : Int → Option Tr} : ∀ {ks : List Int} {ts : List Tr}, kidsR g ks = some ts → ∀ i, i < ks.length → g (iAt ks i) = some (ts.getD i noTr)
  | [], _, _, i, hi => by simp at hi
  | k :: ks, _, h, i, hi => by
    obtain ⟨t, us, h1, h2, rfl⟩ := kidsR_cons h
    cases i with
    | zero => simpa [iAt] using h1
    | succ i =>
      have := kidsR_at h2 i (by simpa using hi)
      simpa [iAt] using this
/-- one kid more -/
theorem kidsR_snoc {g : Int → Option Tr} {k : Int} {t : Tr} (hk : g k = some t) : ∀ {ks : List Int} {ts : List Tr}, kidsR g ks = some ts → kidsR g (ks ++ [k]) = some (ts ++ [t])
  | [], _, h => by cases h; simp [kidsR, hk]
  | _ :: _, _, h => by
    obtain ⟨t1, us, h1, h2, rfl⟩ := kidsR_cons h
    have := kidsR_snoc hk h2
    simp [kidsR, h1, this]
theorem kidsR_step {g : Int → Option Tr} {ks : List Int} {ts : List Tr} {t : Tr} {j : Nat} (hj : j < ks.length) (h : kidsR g (ks.take j) = some ts) (ht : g (iAt ks j) = some t) : kidsR g (ks.take (j + 1)) = some (ts ++ [t]) := by
  have e : ks.take (j + 1) = ks.take j ++ [iAt ks j] := by
    rw [List.take_add_one, List.getElem?_eq_getElem hj]
    simp [iAt, List.getD, hj]
  rw [e]
  exact kidsR_snoc ht h
/-- a kid that isn't there -/
theorem kidsR_none {g : Int → Option Tr} : ∀ {ks : List Int} (j : Nat), j < ks.length → g (iAt ks j) = none → kidsR g ks = none
  | [], j, hj, _ => by simp at hj
  | k :: ks, j, hj, h => by
    rw [kidsR]
    cases j with
    | zero =>
      have : g k = none := by simpa [iAt] using h
      rw [this]
    | succ j =>
      have : kidsR g ks = none := kidsR_none j (by simpa using hj) (by simpa [iAt] using h)
      split
      · rfl
      · rw [this]

theorem readR_zero (pg : List (List Int)) (a : Int) : readR pg 0 a = none := rfl
theorem readR_out {pg : List (List Int)} {d : Nat} {a : Int} (h : ¬ (0 ≤ a ∧ a < (pg.length : Int))) : readR pg d a = none := by
  cases d with
  | zero => rfl
  | succ d => rw [readR, if_neg h]
theorem readR_bad {pg : List (List Int)} {d : Nat} {a : Int} (h : getNodeF (pg.getD a.toNat []) = none) : readR pg d a = none := by
  cases d with
  | zero => rfl
  | succ d => rw [readR, h]; simp
theorem readR_leaf {pg : List (List Int)} {d : Nat} {a : Int} (ha : 0 ≤ a ∧ a < (pg.length : Int)) {l : List (Int × Int)} (h : getNodeF (pg.getD a.toNat []) = some (.inl l)) : readR pg (d + 1) a = some ⟨true, l, [], [], []⟩ := by
  rw [readR, if_pos ha, h]
theorem readR_fork {pg : List (List Int)} {d : Nat} {a : Int} (ha : 0 ≤ a ∧ a < (pg.length : Int)) {f : ForkV} (h : getNodeF (pg.getD a.toNat []) = some (.inr f)) :
    readR pg (d + 1) a = (kidsR (readR pg d) f.kids).map fun ts => ⟨false, [], f.cuts, ts, f.buf⟩ := by
  rw [readR, if_pos ha, h]
  show (match kidsR (readR pg d) f.kids with | none => none | some ts => some _) = _
  cases kidsR (readR pg d) f.kids <;> rfl

end Go.Proofs.YtckphbmlmjlipaaDoor
