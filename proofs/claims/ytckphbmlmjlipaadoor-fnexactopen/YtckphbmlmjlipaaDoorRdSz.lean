/-
  A tree that is read out of pages is not great.
-/
import Derived.Test.YtckphbmlmjlipaaDoorPart6
import Derived.Test.YtckphbmlmjlipaaDoorRdMath
namespace Go.Proofs.YtckphbmlmjlipaaDoor
open Go.RowKit

theorem sum_le {α : Type} (f : α → Nat) (b : Nat) : ∀ (l : List α), (∀ x ∈ l, f x ≤ b) → (l.map f).sum ≤ l.length * b
  | [], _ => by simp
  | x :: l, h => by
    have h1 := h x (by simp)
    have h2 := sum_le f b l (fun y hy => h y (by simp [hy]))
    simp only [List.map_cons, List.sum_cons, List.length_cons]
    rw [Nat.succ_mul]
    omega
theorem kidsR_mem {g : Int → Option Tr} : ∀ {ks : List Int} {ts : List Tr}, kidsR g ks = some ts → ∀ t ∈ ts, ∃ k, g k = some t
  | [], ts, h, t, ht => by
    rw [kidsR] at h
    simp only [Option.some.injEq] at h
    subst h
    cases ht
  | k :: ks, ts, h, t, ht => by
    obtain ⟨t1, us, h1, h2, rfl⟩ := kidsR_cons h
    rcases List.mem_cons.1 ht with rfl | ht
    · exact ⟨k, h1⟩
    · exact kidsR_mem h2 t ht
theorem readR_size (l : List ByteArray) : ∀ (d : Nat) (a : Int) (T : Tr), readR (pgB l) d a = some T → sizeT d T + 5 ≤ 5 * 4 ^ d
  | 0, a, T, h => by rw [readR] at h; cases h
  | d + 1, a, T, h => by
    have hpow : 4 ^ (d + 1) = 4 * 4 ^ d := by rw [Nat.pow_succ, Nat.mul_comm]
    have h1 : 1 ≤ 4 ^ d := Nat.one_le_pow _ _ (by decide)
    rw [readR] at h
    split at h
    · rename_i ha
      have hp : (pgB l).getD a.toNat [] = bytesOf (sOf l a.toNat) := pgB_at l a.toNat (by rw [pgB_length] at ha; omega)
      rw [hp] at h
      split at h
      · cases h
      · rename_i ps hg
        have hok := (getNodeF_put (bytesOf_in _) hg).2.2
        simp only [okV] at hok
        simp only [Option.some.injEq] at h
        subst h
        simp only [sizeT, List.length_nil, List.map_nil, List.sum_nil]
        omega
      · rename_i f hg
        have hok := (getNodeF_put (bytesOf_in _) hg).2.2
        simp only [okV] at hok
        split at h
        · cases h
        · rename_i ts hk
          simp only [Option.some.injEq] at h
          subst h
          have hl := kidsR_length hk
          have hs := sum_le (sizeT d) (5 * 4 ^ d - 5) ts (fun t ht => by
            obtain ⟨k, hk'⟩ := kidsR_mem hk t ht
            have := readR_size l d k t hk'
            omega)
          simp only [sizeT, List.length_nil]
          have h4 : ts.length * (5 * 4 ^ d - 5) ≤ 4 * (5 * 4 ^ d - 5) := Nat.mul_le_mul_right _ (by omega)
          omega
    · cases h

end Go.Proofs.YtckphbmlmjlipaaDoor
