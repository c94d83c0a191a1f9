/-
  The number form, as a plain function on numbers: seven bits a byte, the lowest first.
-/
namespace Go.Proofs.YtfedeljadckjiaaDoor

def codeN (x : Int) : Int := if x < 0 then -2 * x - 1 else 2 * x
def sevens : Nat → Int → List Int
  | 0, n => [n]
  | f + 1, n => if 127 < n then (n % 128 + 128) :: sevens f (n / 128) else [n]
def putN (x : Int) : List Int := if -2000000000 ≤ x ∧ x ≤ 2000000000 then sevens 4 (codeN x) else []
def topN : Nat → Int
  | 0 => 128
  | k + 1 => 128 * topN k

theorem sevens_stop (f : Nat) {n : Int} (h : ¬ 127 < n) : sevens f n = [n] := by cases f <;> simp [sevens, h]
theorem sevens_go (f : Nat) {n : Int} (h : 127 < n) : sevens (f + 1) n = (n % 128 + 128) :: sevens f (n / 128) := by simp [sevens, h]
theorem sevens_length (f : Nat) (n : Int) : (sevens f n).length ≤ f + 1 := by
  induction f generalizing n with
  | zero => simp [sevens]
  | succ f ih =>
    rw [sevens]
    split
    · have := ih (n / 128); simp; omega
    · simp
theorem sevens_pos (f : Nat) (n : Int) : 0 < (sevens f n).length := by cases f <;> simp [sevens]; split <;> simp
theorem sevens_byte (f : Nat) : ∀ n : Int, 0 ≤ n → n < topN f → ∀ b ∈ sevens f n, 0 ≤ b ∧ b ≤ 255 := by
  induction f with
  | zero => intro n h0 h1 b hb; simp [sevens] at hb; simp [topN] at h1; omega
  | succ f ih =>
    intro n h0 h1 b hb
    rw [sevens] at hb
    split at hb
    · rcases List.mem_cons.1 hb with rfl | hb
      · omega
      · exact ih (n / 128) (by omega) (by rw [topN] at h1; omega) b hb
    · simp at hb; omega
theorem putN_in {x : Int} (h1 : -2000000000 ≤ x) (h2 : x ≤ 2000000000) : putN x = sevens 4 (codeN x) := by simp [putN, h1, h2]
theorem putN_out {x : Int} (h : ¬ (-2000000000 ≤ x ∧ x ≤ 2000000000)) : putN x = [] := by simp only [putN, if_neg h]
theorem putN_length (x : Int) : (putN x).length ≤ 5 := by
  unfold putN; split
  · exact sevens_length 4 _
  · simp
theorem codeN_in {x : Int} (h1 : -2000000000 ≤ x) (h2 : x ≤ 2000000000) : 0 ≤ codeN x ∧ codeN x ≤ 4000000000 := by unfold codeN; split <;> omega
theorem putN_byte (x : Int) : ∀ b ∈ putN x, 0 ≤ b ∧ b ≤ 255 := by
  intro b hb
  by_cases h : -2000000000 ≤ x ∧ x ≤ 2000000000
  · rw [putN_in h.1 h.2] at hb
    have := codeN_in h.1 h.2
    exact sevens_byte 4 _ this.1 (by simp [topN]; omega) b hb
  · rw [putN_out h] at hb; cases hb

/-- what a loop that writes the form has done, and has still to do -/
structure Formed (x : Int) (done : List Int) (k : Nat) (m : Int) : Prop where
  room : done.length + k = 4
  low : 0 ≤ m
  high : m ≤ 4000000000
  top : m < topN k
  all : done ++ sevens k m = sevens 4 (codeN x)
theorem Formed.start {x : Int} (h1 : -2000000000 ≤ x) (h2 : x ≤ 2000000000) : Formed x [] 4 (codeN x) :=
  ⟨rfl, (codeN_in h1 h2).1, (codeN_in h1 h2).2, by have := (codeN_in h1 h2).2; simp [topN]; omega, rfl⟩
theorem Formed.step {x : Int} {done : List Int} {k : Nat} {m : Int} (h : Formed x done k m) (hm : 127 < m) : ∃ k', k = k' + 1 ∧ Formed x (done ++ [m % 128 + 128]) k' (m / 128) := by
  obtain ⟨h1, h2, h3, h4, h5⟩ := h
  cases k with
  | zero => simp [topN] at h4; omega
  | succ k =>
    refine ⟨k, rfl, ?_, by omega, by omega, by rw [topN] at h4; omega, ?_⟩
    · simp; omega
    · rw [sevens_go k hm] at h5
      rw [← h5]; simp
theorem Formed.stop {x : Int} {done : List Int} {k : Nat} {m : Int} (h : Formed x done k m) (hm : ¬ 127 < m) : done ++ [m] = sevens 4 (codeN x) := by
  rw [← h.all, sevens_stop k hm]

end Go.Proofs.YtfedeljadckjiaaDoor
