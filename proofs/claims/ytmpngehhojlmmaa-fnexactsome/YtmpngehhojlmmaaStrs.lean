/-
  Contracts of the laws' functions on lists of strings: their size, their copy, whether two are alike.
-/
import Derived.Test.YtmpngehhojlmmaaSupsM
import Derived.Test.YtmpngehhojlmmaaAppend
namespace Go.Proofs.Ytmpngehhojlmmaa
open Go.RowKit

/-- the cells of a list of strings -/
def flatS (l : List ByteArray) : List Value := l.map Value.string
def sOf (l : List ByteArray) (i : Nat) : ByteArray := l.getD i ByteArray.empty
theorem flatS_length (l : List ByteArray) : (flatS l).length = l.length := by simp [flatS]
theorem flatS_at (l : List ByteArray) (i : Nat) (h : i < l.length) : (flatS l)[i]? = some (.string (sOf l i)) := by simp [flatS, sOf, List.getD, h]
theorem flatS_one (l : List ByteArray) : ∀ y ∈ flatS l, y.oneCell' = true := by
  intro y hy
  simp only [flatS, List.mem_map] at hy
  obtain ⟨s, _, rfl⟩ := hy
  rfl
theorem flatS_append (l m : List ByteArray) : flatS (l ++ m) = flatS l ++ flatS m := by simp [flatS]

theorem Row.strs {w : World} {v : Value} {l : List ByteArray} (h : Row w v l.length (flatS l)) :
    ∃ (a : Option Addr) (b off cap : Nat), v = .slice a l.length cap ∧ l.length ≤ cap ∧ cap ≤ maxLen ∧ (0 < l.length → a = some ⟨b, off, none⟩) ∧
      (∀ i, i < l.length → w.cell? ⟨b, off + i, none⟩ = some (.string (sOf l i))) := by
  obtain ⟨a, b, off, cap, h1, h2, h3, h4, h5, _⟩ := h
  exact ⟨a, b, off, cap, h1, h2, h3, h4, fun i hi => h5 _ _ (flatS_at l i hi)⟩

theorem extS {l1 l2 : List ByteArray} (hl : l1.length = l2.length) (h : ∀ i, i < l1.length → sOf l1 i = sOf l2 i) : l1 = l2 := by
  apply List.ext_getElem hl
  intro i h1 h2
  have := h i h1
  simpa [sOf, List.getD, h1, h2] using this

/-- what is left behind a list of strings; -1: they were too many -/
def szS (left : Int) : List ByteArray → Int
  | [] => left
  | s :: r => if left - s.size < 0 then -1 else szS (left - s.size) r
def szSall (l : List ByteArray) (left : Int) : Int := if left - l.length < 0 then -1 else szS (left - l.length) l
theorem szS_snoc (s : ByteArray) : ∀ (l : List ByteArray) (left : Int), 0 ≤ szS left l → szS left (l ++ [s]) = if szS left l - s.size < 0 then -1 else szS left l - s.size
  | [], left, _ => by rfl
  | x :: r, left, h => by
    simp only [szS, List.cons_append] at h ⊢
    split
    · rename_i hc; rw [if_pos hc] at h; omega
    · rename_i hc; rw [if_neg hc] at h; exact szS_snoc s r _ h
theorem szS_le : ∀ (l : List ByteArray) (left : Int), -1 ≤ left → szS left l ≤ left
  | [], left, _ => by simp [szS]
  | x :: r, left, h => by
    simp only [szS]
    split
    · omega
    · have := szS_le r (left - x.size) (by omega); omega
theorem szS_pre : ∀ (l m : List ByteArray) (left : Int), szS left l = -1 → szS left (l ++ m) = -1 ∨ (l = [] ∧ left = -1)
  | [], m, left, h => by simp [szS] at h; exact Or.inr ⟨rfl, h⟩
  | x :: r, m, left, h => by
    simp only [szS, List.cons_append] at h ⊢
    left
    split
    · rfl
    · rename_i hc
      rw [if_neg hc] at h
      rcases szS_pre r m _ h with h' | ⟨_, h'⟩
      · exact h'
      · omega

theorem takeS_succ (l : List ByteArray) (k : Nat) (hk : k < l.length) : l.take (k + 1) = l.take k ++ [sOf l k] := by
  rw [List.take_succ_eq_append_getElem hk]; simp [sOf, List.getD, hk]

set_option maxHeartbeats 1000000 in
theorem szStringS_any (v : Value) (l : List ByteArray) (left : Int) (w : World) (hr : Row w v l.length (flatS l)) (hz : ∀ s ∈ l, s.size ≤ maxLen) (hl : 0 ≤ left) (hl2 : left ≤ 1048576) :
    Calls Try.prog 34 #[v, .int .i64 left] w fun e w' => e = .returned (.int .i64 (szSall l left)) ∧ w' = w := by
  obtain ⟨a, b, off, cap, rfl, hcap, hmax, ha, hk⟩ := hr.strs
  unfold maxLen at hmax
  by_cases h0 : left - l.length < 0
  · have hA : Hid (szSall l left = -1) := by unfold szSall; rw [if_pos h0]; exact rfl
    go_enter Try.func34, Try.ntmps34
    go_wp2
    go_ret
    exact ⟨ret_int hA.out.symm, rfl⟩
  · have hA : Hid (szSall l left = szS (left - l.length) l) := by unfold szSall; rw [if_neg h0]; exact rfl
    go_enter Try.func34, Try.ntmps34
    go_wp2
    go_loop [1, 5] (fun x i => ∃ k : Nat, k ≤ l.length ∧ i = .int .i64 k ∧ x = .int .i64 (szS (left - l.length) (l.take k)) ∧ 0 ≤ szS (left - l.length) (l.take k)) (fun _ i => l.length - (intOf i).toNat)
    case atStart => exact ⟨0, Nat.zero_le _, rfl, by simp [szS], by simp [szS]; omega⟩
    case round =>
      obtain ⟨k, hkl, rfl, rfl, hpos⟩ := hrel
      have hle := szS_le (l.take k) (left - l.length) (by omega)
      have SN := szS_snoc (sOf l k) (l.take k) (left - l.length) hpos
      have TE : Hid (l.take l.length = l) := List.take_length
      have PRE := fun m h => szS_pre (l.take (k + 1)) m (left - l.length) h
      by_cases hlt : k < l.length
      · have TS := takeS_succ l k hlt
        have TD : Hid (l.take (k + 1) ++ l.drop (k + 1) = l) := List.take_append_drop _ _
        rw [← TS] at SN
        have hsz : (sOf l k).size ≤ 9223372036854775807 := by
          have := hz (sOf l k) (by simp [sOf, List.getD, hlt]); unfold maxLen at this; omega
        have hal := ha (by omega)
        subst hal
        have d0 := hk k hlt
        have P1 : Hid _ := PRE (l.drop (k + 1))
        have LF : Hid (0 ≤ left - (l.length : Int)) := by show 0 ≤ left - (l.length : Int); omega
        clear PRE hk hz TS
        generalize szS (left - l.length) (l.take k) = x at *
        generalize hxx : szS (left - l.length) (l.take (k + 1)) = xx at *
        have HXX : Hid _ := hxx
        clear hxx
        generalize sOf l k = s at *
        by_cases hc : x - (s.size : Int) < 0
        · rw [if_pos hc] at SN
          have FIN : Hid (szSall l left = -1) := by
            rw [hA.out]
            rcases P1.out SN with h' | ⟨_, h'⟩
            · rw [TD.out] at h'; exact h'
            · have := LF.out; omega
          clear SN P1 HXX TD
          go_wp2
          go_ret
          exact ⟨ret_int FIN.out.symm, rfl⟩
        · rw [if_neg hc] at SN
          have SN' : Hid (xx = x - s.size) := SN
          clear SN P1 TD
          go_wp2
          go_round
          case rel => exact ⟨k + 1, by omega, by go_num, by rw [HXX.out, SN'.out], by rw [HXX.out, SN'.out]; omega⟩
          case measure => simp [intOf]; omega
      · have hkk : k = l.length := by omega
        subst hkk
        clear PRE SN
        rw [TE.out] at hpos hle ⊢
        generalize szS (left - l.length) l = x at *
        go_wp2
        go_ret
        exact ⟨ret_int hA.out.symm, rfl⟩

end Go.Proofs.Ytmpngehhojlmmaa
