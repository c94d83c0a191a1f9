/-
  The plain functions that chapter 1's code computes (numbers and lists alone; nothing of the program).
-/
namespace Go.Proofs.Yteegcblndbljlaa

def inB (x lo hi : Int) : Bool := decide (lo ≤ x ∧ x ≤ hi)
theorem inB_true {x lo hi : Int} (h1 : lo ≤ x) (h2 : x ≤ hi) : inB x lo hi = true := by simp [inB, h1, h2]
theorem inB_false1 {x lo hi : Int} (h1 : ¬ lo ≤ x) : inB x lo hi = false := by simp [inB]; omega
theorem inB_false2 {x lo hi : Int} (h2 : ¬ x ≤ hi) : inB x lo hi = false := by simp [inB]; omega
theorem inB_iff {x lo hi : Int} : inB x lo hi = true ↔ lo ≤ x ∧ x ≤ hi := by simp [inB]

/-- a message that is as told -/
def msgOkB (o k v : Int) : Bool := inB o 1 4 && (inB k 0 999 && (inB v (-1000000000) 1000000000 && ((v == 0) || ((o == 1) || (o == 3)))))

/-- the key, the value of the i-th pair -/
def kOf (l : List (Int × Int)) (i : Nat) : Int := (l.getD i (0, 0)).1
def vOf (l : List (Int × Int)) (i : Nat) : Int := (l.getD i (0, 0)).2
def eqPairB (a b c d : Int) : Bool := decide (a = c ∧ b = d)

/-- the i-th pair stands right in its list -/
def okAt (l : List (Int × Int)) (i : Nat) : Bool := inB (kOf l i) 0 999 && (inB (vOf l i) (-1000000000) 1000000000 && (i == 0 || decide (kOf l (i - 1) < kOf l i)))
/-- a list of pairs that is a map -/
def mapOkB (l : List (Int × Int)) : Bool := (List.range l.length).all (okAt l)

theorem mapOkB_true {l : List (Int × Int)} (h : ∀ i, i < l.length → okAt l i = true) : mapOkB l = true := by
  simp only [mapOkB, List.all_eq_true, List.mem_range]; exact h
theorem mapOkB_false {l : List (Int × Int)} {i : Nat} (hi : i < l.length) (h : okAt l i = false) : mapOkB l = false := by
  rw [Bool.eq_false_iff]
  intro hc
  simp only [mapOkB, List.all_eq_true, List.mem_range] at hc
  have := hc i hi
  rw [h] at this
  cases this
theorem mapOkB_at {l : List (Int × Int)} (h : mapOkB l = true) {i : Nat} (hi : i < l.length) : okAt l i = true := by
  simp only [mapOkB, List.all_eq_true, List.mem_range] at h
  exact h i hi

theorem ext_of {l1 l2 : List (Int × Int)} (hl : l1.length = l2.length) (h : ∀ i, i < l1.length → kOf l1 i = kOf l2 i ∧ vOf l1 i = vOf l2 i) : l1 = l2 := by
  apply List.ext_getElem hl
  intro i h1 h2
  have := h i h1
  simp only [kOf, vOf, List.getD, List.getElem?_eq_getElem h1, List.getElem?_eq_getElem h2, Option.getD_some] at this
  exact Prod.ext this.1 this.2
theorem eqPairB_true {a b c d : Int} (h : eqPairB a b c d = true) : a = c ∧ b = d := by simpa [eqPairB] using h
theorem ne_of_eqPairB {l1 l2 : List (Int × Int)} {k : Nat} (h : eqPairB (kOf l1 k) (vOf l1 k) (kOf l2 k) (vOf l2 k) = false) : l1 ≠ l2 := by
  intro e; subst e; simp [eqPairB] at h

end Go.Proofs.Yteegcblndbljlaa
