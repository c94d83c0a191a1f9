/-
  The plain functions that chapter 1's code computes (numbers and lists alone; nothing of the program).
-/
namespace Go.Proofs.Ytlapcjbhhonagaa

def inB (x lo hi : Int) : Bool := decide (lo ≤ x ∧ x ≤ hi)
theorem inB_true {x lo hi : Int} (h1 : lo ≤ x) (h2 : x ≤ hi) : inB x lo hi = true := by simp [inB, h1, h2]
theorem inB_false1 {x lo hi : Int} (h1 : ¬ lo ≤ x) : inB x lo hi = false := by simp [inB]; omega
theorem inB_false2 {x lo hi : Int} (h2 : ¬ x ≤ hi) : inB x lo hi = false := by simp [inB]; omega
theorem inB_iff {x lo hi : Int} : inB x lo hi = true ↔ lo ≤ x ∧ x ≤ hi := by simp [inB]

/-- a message that is as told -/
def msgOkB (o k v : Int) : Bool := inB o 1 4 && (inB k 0 999 && (inB v (-1000000000) 1000000000 && ((v == 0) || ((o == 1) || (o == 3)))))

end Go.Proofs.Ytlapcjbhhonagaa
