/-
  Shrinking messages, as the model and as the program do it; plain mathematics: both come to one.
-/
import Derived.Test.YtbmcojelgbkafaaDoorOfNodes4
namespace Go.Proofs.YtbmcojelgbkafaaDoor
set_option maxRecDepth 100000
set_option maxHeartbeats 8000000
section
def rulB (m : Int × Int × Int) : Bool := (m.1 == 1) || (m.1 == 2)
def ruledB (l : ML) (k : Int) : Bool := l.any fun m => (m.2.1 == k) && rulB m
def overB (l : ML) (k : Int) : Bool := l.any fun m => okM m && ((m.2.1 == k) && rulB m)
def keptF : ML → ML
 | [] => []
 | m :: l => if okM m = true ∧ m.1 ≠ 4 ∧ overB l m.2.1 = false then m :: keptF l else keptF l
def firstI : ML → Int → Int
 | [], _ => -1
 | m :: l, k => if m.2.1 = k then 0 else if firstI l k < 0 then -1 else firstI l k + 1
def joinsB (A : ML) (m : Int × Int × Int) : Bool := decide (0 ≤ firstI A m.2.1) && ((mO A (firstI A m.2.1).toNat == 1) && (m.1 == 3))
def stepS (A : ML) (m : Int × Int × Int) : ML :=
 if joinsB A m = true then A.set (firstI A m.2.1).toNat (mO A (firstI A m.2.1).toNat, mK A (firstI A m.2.1).toNat, clampI (mV A (firstI A m.2.1).toNat + m.2.2)) else A ++ [m]
def shrinkF (ms : ML) : ML := (keptF ms).foldl stepS []

theorem firstI_spec (A : ML) (k : Int) : (firstI A k = -1 ∧ ∀ m ∈ A, m.2.1 ≠ k) ∨ ∃ n, firstI A k = (n : Nat) ∧ n < A.length ∧ mK A n = k ∧ ∀ j, j < n → mK A j ≠ k := by
 induction A with
 | nil => left; exact ⟨rfl, fun m hm => by simp at hm⟩
 | cons m l ih =>
  rw [firstI]
  by_cases h : m.2.1 = k
  ·rw [if_pos h]; right; exact ⟨0, rfl, by simp, by simp [mK, h], fun j hj => by omega⟩
  ·rw [if_neg h]
   rcases ih with ⟨h1, h2⟩ | ⟨n, h1, h2, h3, h4⟩
   ·left
    rw [h1]
    exact ⟨by simp, fun q hq => by rcases List.mem_cons.1 hq with rfl | hq; exact h; exact h2 q hq⟩
   ·right
    rw [h1, if_neg (by omega)]
    refine ⟨n + 1, by simp, by simp; omega, by simpa [mK] using h3, fun j hj => ?_⟩
    cases j with
    | zero => simpa [mK] using h
    | succ j => have := h4 j (by omega); simpa [mK] using this
theorem firstI_len (A : ML) (k : Int) : firstI A k < A.length := by
 rcases firstI_spec A k with ⟨h, _⟩ | ⟨n, h, h2, _⟩ <;> omega
theorem firstI_at {A : ML} {k : Int} {n : Nat} (h1 : n < A.length) (h2 : mK A n = k) (h3 : ∀ j, j < n → mK A j ≠ k) : firstI A k = n := by
 rcases firstI_spec A k with ⟨_, h⟩ | ⟨n', h, h4, h5, h6⟩
 ·exact absurd h2 (by have := h A[n] (List.getElem_mem h1); rw [ml_at A n h1] at this; exact this)
 ·rw [h]
  by_cases hlt : n' < n
  ·exact absurd h5 (h3 n' hlt)
  ·by_cases hgt : n < n'
   ·exact absurd h2 (h6 n hgt)
   ·omega
theorem firstI_none {A : ML} {k : Int} (h : ∀ m ∈ A, m.2.1 ≠ k) : firstI A k = -1 := by
 rcases firstI_spec A k with ⟨h, _⟩ | ⟨n, h1, h2, h3, _⟩
 ·exact h
 ·exact absurd h3 (by have := h A[n] (List.getElem_mem h2); rw [ml_at A n h2] at this; exact this)

def wgF (l : ML) : ML := l.filter fun m => m.1 != 4
def woF : ML → ML
 | [] => []
 | m :: l => if ruledB l m.2.1 = true then woF l else m :: woF l
def stepJ (s : ML × PL) (m : Int × Int × Int) : ML × PL :=
 if m.1 = 1 then (s.1 ++ [m], putF s.2 m.2.1 s.1.length)
 else if m.1 = 3 ∧ (getP s.2 m.2.1).2 = true then (s.1.set (getP s.2 m.2.1).1.toNat (1, m.2.1, clampI (mV s.1 (getP s.2 m.2.1).1.toNat + m.2.2)), s.2)
 else (s.1 ++ [m], s.2)
def joinF (l : ML) : ML := (l.foldl stepJ ([], [])).1

theorem kept_sub (l : ML) : ∀ m ∈ keptF l, m ∈ l ∧ okM m = true ∧ m.1 ≠ 4 := by
 induction l with
 | nil => intro m hm; simp [keptF] at hm
 | cons p l ih =>
  intro m hm
  rw [keptF] at hm
  split at hm
  ·rename_i h
   rcases List.mem_cons.1 hm with rfl | hm
   ·exact ⟨by simp, h.1, h.2.1⟩
   ·have := ih m hm; exact ⟨by simp [this.1], this.2⟩
  ·have := ih m hm; exact ⟨by simp [this.1], this.2⟩
def NoRul (l : ML) : Prop := l.Pairwise fun a b => a.2.1 = b.2.1 → rulB b = false
theorem kept_norul (l : ML) : NoRul (keptF l) := by
 induction l with
 | nil => exact List.Pairwise.nil
 | cons p l ih =>
  rw [keptF]
  split
  ·rename_i h
   refine List.pairwise_cons.2 ⟨fun b hb he => ?_, ih⟩
   obtain ⟨hb1, hb2, _⟩ := kept_sub l b hb
   have h2 := h.2.2
   rw [overB, List.any_eq_false] at h2
   have := h2 b hb1
   simpa [hb2, he] using this
  ·exact ih

theorem step_keys (A : ML) (m : Int × Int × Int) (k : Int) (hA : ∀ a ∈ A, a.2.1 ≠ k) (hm : m.2.1 ≠ k) : ∀ a ∈ stepS A m, a.2.1 ≠ k := by
 unfold stepS
 split
 ·rename_i hj
  intro a ha
  rcases List.mem_or_eq_of_mem_set ha with h | h
  ·exact hA a h
  ·subst h
   have hl := firstI_len A m.2.1
   simp only [joinsB, Bool.and_eq_true, decide_eq_true_eq] at hj
   have hi : (firstI A m.2.1).toNat < A.length := by omega
   have := hA A[(firstI A m.2.1).toNat] (List.getElem_mem hi)
   rw [ml_at A _ hi] at this
   exact this
 ·intro a ha
  rcases List.mem_append.1 ha with h | h
  ·exact hA a h
  ·simp at h; subst h; exact hm

def okN (m : Int × Int × Int) : Prop := okM m = true ∧ m.1 ≠ 4
theorem okM_put (k v : Int) (hk : 0 ≤ k ∧ k ≤ 999) (hv : -1000000000 ≤ v ∧ v ≤ 1000000000) : okM (1, k, v) = true := by
 show msgOkB 1 k v = true
 simp [msgOkB, inB, hk, hv]
theorem mem_mO {A : ML} {n : Nat} (h : n < A.length) : (mO A n, mK A n, mV A n) ∈ A := by rw [← ml_at A n h]; exact List.getElem_mem h
theorem stepS_ok {A : ML} (hA : ∀ a ∈ A, okN a) {m : Int × Int × Int} (hm : okN m) : ∀ a ∈ stepS A m, okN a := by
 unfold stepS
 split
 ·rename_i hj
  intro a ha
  rcases List.mem_or_eq_of_mem_set ha with h | h
  ·exact hA a h
  ·subst h
   have hl := firstI_len A m.2.1
   simp only [joinsB, Bool.and_eq_true, decide_eq_true_eq, beq_iff_eq] at hj
   have hi : (firstI A m.2.1).toNat < A.length := by omega
   have h1 := hA _ (mem_mO hi)
   rw [hj.2.1] at h1 ⊢
   exact ⟨okM_put _ _ (msgOkB_in h1.1).2.1 (clampI_in _), by simp⟩
 ·intro a ha
  rcases List.mem_append.1 ha with h | h
  ·exact hA a h
  ·simp at h; subst h; exact hm
theorem stepS_length (A : ML) (m : Int × Int × Int) : (stepS A m).length ≤ A.length + 1 := by
 unfold stepS; split <;> simp
theorem foldS_ok (l : ML) (hl : ∀ m ∈ l, okN m) (A : ML) (hA : ∀ a ∈ A, okN a) : ∀ a ∈ l.foldl stepS A, okN a := by
 induction l generalizing A with
 | nil => exact hA
 | cons m l ih => exact ih (fun q hq => hl q (by simp [hq])) _ (stepS_ok hA (hl m (by simp)))
theorem foldS_length (l : ML) (A : ML) : (l.foldl stepS A).length ≤ A.length + l.length := by
 induction l generalizing A with
 | nil => simp
 | cons m l ih =>
  have h1 := ih (stepS A m)
  have h2 := stepS_length A m
  rw [List.foldl_cons]; simp only [List.length_cons]; omega
theorem kept_length (l : ML) : (keptF l).length ≤ l.length := by
 induction l with
 | nil => simp [keptF]
 | cons m l ih => rw [keptF]; split <;> simp <;> omega
theorem shrinkF_ok (ms : ML) : ∀ a ∈ shrinkF ms, okN a := foldS_ok _ (fun m hm => (kept_sub ms m hm).2) [] (fun a ha => by simp at ha)
theorem shrinkF_length (ms : ML) : (shrinkF ms).length ≤ ms.length := by
 have h1 := foldS_length (keptF ms) []
 have h2 := kept_length ms
 unfold shrinkF; simp at h1; omega
end
end Go.Proofs.YtbmcojelgbkafaaDoor
