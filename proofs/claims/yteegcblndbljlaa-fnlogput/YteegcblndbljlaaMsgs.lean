/-
  Lists of messages as rows of cells; the laws' own functions on them.
-/
import Derived.Test.YteegcblndbljlaaMarks
import Derived.Test.YteegcblndbljlaaMathMap
namespace Go.Proofs.Yteegcblndbljlaa
open Go.RowKit

abbrev ML := List (Int × Int × Int)
def mO (l : ML) (i : Nat) : Int := (l.getD i (0, 0, 0)).1
def mK (l : ML) (i : Nat) : Int := (l.getD i (0, 0, 0)).2.1
def mV (l : ML) (i : Nat) : Int := (l.getD i (0, 0, 0)).2.2
theorem ml_at (l : ML) (i : Nat) (h : i < l.length) : l[i] = (mO l i, mK l i, mV l i) := by simp [mO, mK, mV, List.getD, h]
theorem ml_ext {l1 l2 : ML} (hl : l1.length = l2.length) (h : ∀ i, i < l1.length → mO l1 i = mO l2 i ∧ mK l1 i = mK l2 i ∧ mV l1 i = mV l2 i) : l1 = l2 := by
  apply List.ext_getElem hl
  intro i h1 h2
  rw [ml_at l1 i h1, ml_at l2 i h2, (h i h1).1, (h i h1).2.1, (h i h1).2.2]
theorem take_succM (l : ML) (k : Nat) (hk : k < l.length) : l.take (k + 1) = l.take k ++ [(mO l k, mK l k, mV l k)] := by
  rw [List.take_succ_eq_append_getElem hk, ml_at l k hk]

/-- the cells of a list of messages -/
def flatM (l : ML) : List Value := l.flatMap fun m => [.int .i64 m.1, .int .i64 m.2.1, .int .i64 m.2.2]
theorem flatM_cons (m : Int × Int × Int) (l : ML) : flatM (m :: l) = .int .i64 m.1 :: .int .i64 m.2.1 :: .int .i64 m.2.2 :: flatM l := rfl
theorem flatM_append (l m : ML) : flatM (l ++ m) = flatM l ++ flatM m := by simp [flatM, List.flatMap_append]
theorem flatM_length (l : ML) : (flatM l).length = l.length * 3 := by
  induction l with
  | nil => rfl
  | cons a l ih => rw [flatM_cons]; simp only [List.length_cons]; omega
theorem flatM_at (l : ML) : ∀ i, i < l.length → (flatM l)[i * 3]? = some (.int .i64 (mO l i)) ∧ (flatM l)[i * 3 + 1]? = some (.int .i64 (mK l i)) ∧ (flatM l)[i * 3 + 2]? = some (.int .i64 (mV l i)) := by
  induction l with
  | nil => intro i h; simp at h
  | cons a l ih =>
    intro i h
    cases i with
    | zero => simp [flatM_cons, mO, mK, mV]
    | succ i =>
      have := ih i (by simpa using h)
      have e1 : (i + 1) * 3 = i * 3 + 1 + 1 + 1 := by omega
      have e2 : (i + 1) * 3 + 1 = (i * 3 + 1) + 1 + 1 + 1 := by omega
      have e3 : (i + 1) * 3 + 2 = (i * 3 + 2) + 1 + 1 + 1 := by omega
      rw [e3, e2, e1, flatM_cons]
      simpa [mO, mK, mV] using this
theorem flatM_set (l : ML) (a b c : Int) : ∀ i, i < l.length → (((flatM l).set (i * 3) (.int .i64 a)).set (i * 3 + 1) (.int .i64 b)).set (i * 3 + 2) (.int .i64 c) = flatM (l.set i (a, b, c)) := by
  induction l with
  | nil => intro i h; simp at h
  | cons p l ih =>
    intro i h
    cases i with
    | zero => simp [flatM_cons]
    | succ i =>
      have := ih i (by simpa using h)
      rw [flatM_cons, List.set_cons_succ, flatM_cons, show (i + 1) * 3 + 2 = (i * 3 + 2) + 1 + 1 + 1 by omega, show (i + 1) * 3 = i * 3 + 1 + 1 + 1 by omega]
      simp only [List.set_cons_succ]
      rw [this]

theorem Row.msgs {w : World} {v : Value} {l : ML} (h : Row w v l.length (flatM l)) :
    ∃ (a : Option Addr) (b off cap : Nat), v = .slice a l.length cap ∧ l.length ≤ cap ∧ cap ≤ maxLen ∧ (0 < l.length → a = some ⟨b, off, none⟩) ∧
      (∀ i, i < l.length → w.cell? ⟨b, off + i * 3, none⟩ = some (.int .i64 (mO l i))) ∧ (∀ i, i < l.length → w.cell? ⟨b, off + i * 3 + 1, none⟩ = some (.int .i64 (mK l i))) ∧ (∀ i, i < l.length → w.cell? ⟨b, off + i * 3 + 2, none⟩ = some (.int .i64 (mV l i))) := by
  obtain ⟨a, b, off, cap, h1, h2, h3, h4, h5, _⟩ := h
  exact ⟨a, b, off, cap, h1, h2, h3, h4, fun i hi => h5 _ _ (flatM_at l i hi).1, fun i hi => h5 _ _ (flatM_at l i hi).2.1, fun i hi => h5 _ _ (flatM_at l i hi).2.2⟩

def eqMsgB (a b c a' b' c' : Int) : Bool := decide (a = a' ∧ b = b' ∧ c = c')
theorem eqMsgB_true {a b c d e f : Int} (h : eqMsgB a b c d e f = true) : a = d ∧ b = e ∧ c = f := by simpa [eqMsgB] using h
theorem ne_of_eqMsgB {l1 l2 : ML} {k : Nat} (h : eqMsgB (mO l1 k) (mK l1 k) (mV l1 k) (mO l2 k) (mK l2 k) (mV l2 k) = false) : l1 ≠ l2 := by
  intro e; subst e; simp [eqMsgB] at h

set_option maxHeartbeats 400000 in
theorem eqMsg_any (a b c d e f : Int) (w : World) :
    Calls Try.prog 82 #[.agg #[.int .i64 a, .int .i64 b, .int .i64 c], .agg #[.int .i64 d, .int .i64 e, .int .i64 f]] w fun r w' => r = .returned (.bool (eqMsgB a b c d e f)) ∧ Below w.heap.size w w' := by
  go_enter Try.func82, Try.ntmps82
  go_wp2
  all_goals (go_ret; refine ⟨ret_bool ?_, ((Below.refl _ _).alloc (Nat.le_refl _) _).alloc (by simp) _⟩; simp_all [eqMsgB])

theorem Try.info35 : (Try.prog.info? 35).map (fun i => (i.zero, i.size, i.bytes)) = some (some (.agg #[.int .i64 0, .int .i64 0, .int .i64 0]), 3, 24) := by kernel_rfl

def filledM (l : ML) (k : Nat) : ML := l.take k ++ List.replicate (l.length - k) (0, 0, 0)
theorem filledM_length (l : ML) (k : Nat) (hk : k ≤ l.length) : (filledM l k).length = l.length := by simp [filledM]; omega
theorem filledM_full (l : ML) : filledM l l.length = l := by simp [filledM]
theorem flatM_zero (n : Nat) : flatM (List.replicate n (0, 0, 0)) = List.replicate (n * 3) (.int .i64 0) := by
  induction n with
  | zero => rfl
  | succ n ih => rw [List.replicate_succ, flatM_cons, ih, show (n + 1) * 3 = n * 3 + 1 + 1 + 1 by omega]; simp [List.replicate_succ]
theorem filledM_step (l : ML) (k : Nat) (hk : k < l.length) : (filledM l k).set k (mO l k, mK l k, mV l k) = filledM l (k + 1) := by
  obtain ⟨m, hm⟩ : ∃ m, l.length - k = m + 1 := ⟨l.length - k - 1, by omega⟩
  rw [filledM, filledM, take_succM l k hk, hm, show l.length - (k + 1) = m by omega, List.replicate_succ, List.set_append_right _ _ (by simp; omega)]
  simp [show min k l.length = k by omega]

end Go.Proofs.Yteegcblndbljlaa
