/-
  Contracts of the functions on lists of pairs that the laws and chapter 1 use.
-/
import Derived.Test.YteegcblndbljlaaMsg
import Derived.Deep.QuietTactic
import Derived.BigQuiet
import Derived.Deep.RegionWith
namespace Go.Proofs.Yteegcblndbljlaa
open Go.RowKit

def filledP (l : List (Int × Int)) (k : Nat) : List Value := flatP (l.take k) ++ List.replicate ((l.length - k) * 2) (.int .i64 0)

theorem madeCells_all (zs : Array Value) (z : Value) (h0 : 0 < zs.size) (h : ∀ i, i < zs.size → zs[i]! = z) (n : Nat) : (madeCells zs n).toList = List.replicate n z := by
  apply List.ext_getElem?
  intro j
  by_cases hj : j < n
  · simp [madeCells, hj]
    exact h _ (Nat.mod_lt _ h0)
  · simp [madeCells, hj]

theorem filledP_length (l : List (Int × Int)) (k : Nat) (hk : k ≤ l.length) : (filledP l k).length = l.length * 2 := by
  simp [filledP, flatP_length]; omega
theorem filledP_full (l : List (Int × Int)) : filledP l l.length = flatP l := by simp [filledP]
theorem take_succP (l : List (Int × Int)) (k : Nat) (hk : k < l.length) : l.take (k + 1) = l.take k ++ [(kOf l k, vOf l k)] := by
  have e : (kOf l k, vOf l k) = l[k] := by simp [kOf, vOf, List.getD, hk]
  rw [List.take_succ_eq_append_getElem hk, e]
theorem filledP_zero (l : List (Int × Int)) (k : Nat) (hk : k < l.length) : (filledP l k)[k * 2]? = some (.int .i64 0) ∧ (filledP l k)[k * 2 + 1]? = some (.int .i64 0) := by
  have hl : (flatP (l.take k)).length = k * 2 := by rw [flatP_length]; simp; omega
  constructor
  · rw [filledP, List.getElem?_append_right (by omega), List.getElem?_replicate_of_lt (by omega)]
  · rw [filledP, List.getElem?_append_right (by omega), List.getElem?_replicate_of_lt (by omega)]
theorem filledP_step (l : List (Int × Int)) (k : Nat) (hk : k < l.length) : ((filledP l k).set (k * 2) (.int .i64 (kOf l k))).set (k * 2 + 1) (.int .i64 (vOf l k)) = filledP l (k + 1) := by
  have hl : (flatP (l.take k)).length = k * 2 := by rw [flatP_length]; simp; omega
  obtain ⟨m, hm⟩ : ∃ m, (l.length - k) * 2 = m + 1 + 1 := ⟨(l.length - k) * 2 - 2, by omega⟩
  have hm2 : (l.length - (k + 1)) * 2 = m := by omega
  rw [filledP, filledP, take_succP l k hk, flatP_append, hm, hm2, List.replicate_succ, List.replicate_succ]
  rw [List.set_append_right _ _ (by omega), hl, Nat.sub_self, List.set_cons_zero, List.set_append_right _ _ (by omega), hl, show k * 2 + 1 - k * 2 = 1 by omega]
  simp [flatP]

end Go.Proofs.Yteegcblndbljlaa
