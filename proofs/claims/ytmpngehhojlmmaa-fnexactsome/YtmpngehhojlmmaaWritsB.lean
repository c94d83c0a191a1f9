/-
  Lists of writes: their size, copied, held against each other.
-/
import Derived.Test.YtmpngehhojlmmaaWrits
namespace Go.Proofs.Ytmpngehhojlmmaa
open Go.RowKit

def texts (l : List Wr) : List ByteArray := l.map fun p => p.2.1
theorem texts_length (l : List Wr) : (texts l).length = l.length := by simp [texts]
theorem texts_at (l : List Wr) (i : Nat) (h : i < l.length) : sOf (texts l) i = wT l i := by simp [texts, sOf, wT, List.getD, h]

set_option maxHeartbeats 1000000 in
theorem szWriteS_any (v : Value) (l : List Wr) (left : Int) (w : World) (hr : Row w v l.length (flatW l)) (hz : ∀ s ∈ l, s.2.1.size ≤ maxLen) (hl : 0 ≤ left) (hl2 : left ≤ 1048576) :
    Calls Try.prog 14 #[v, .int .i64 left] w fun e w' => e = .returned (.int .i64 (szSall (texts l) left)) ∧ Below w.heap.size w w' := by
  obtain ⟨a, b, off, cap, rfl, hcap, hmax, ha, hk⟩ := hr.writs
  unfold maxLen at hmax
  by_cases h0 : left - l.length < 0
  · have hA : Hid (szSall (texts l) left = -1) := by unfold szSall; rw [texts_length, if_pos h0]; exact rfl
    go_enter Try.func14, Try.ntmps14
    go_wp2
    go_ret
    exact ⟨ret_int hA.out.symm, Below.refl _ _⟩
  · have hA : Hid (szSall (texts l) left = szS (left - l.length) (texts l)) := by unfold szSall; rw [texts_length, if_neg h0]; exact rfl
    go_enter Try.func14, Try.ntmps14
    go_wp2
    go_loopw [1, 5] (fun x i wr => ∃ k : Nat, k ≤ l.length ∧ i = .int .i64 k ∧ x = .int .i64 (szS (left - l.length) ((texts l).take k)) ∧ 0 ≤ szS (left - l.length) ((texts l).take k) ∧ Below w.heap.size w wr) (fun _ i _ => l.length - (intOf i).toNat)
    case atStart => exact ⟨0, Nat.zero_le _, rfl, by simp [szS], by simp [szS]; omega, Below.refl _ _⟩
    case round =>
      obtain ⟨k, hkl, rfl, rfl, hpos, hb⟩ := hrel
      have hle := szS_le ((texts l).take k) (left - l.length) (by omega)
      have SN := szS_snoc (sOf (texts l) k) ((texts l).take k) (left - l.length) hpos
      have TE : Hid ((texts l).take l.length = texts l) := by rw [← texts_length l]; exact List.take_length
      have PRE := fun m h => szS_pre ((texts l).take (k + 1)) m (left - l.length) h
      by_cases hlt : k < l.length
      · have TS := takeS_succ (texts l) k (by rw [texts_length]; exact hlt)
        have TD : Hid ((texts l).take (k + 1) ++ (texts l).drop (k + 1) = texts l) := List.take_append_drop _ _
        rw [← TS, texts_at l k hlt] at SN
        have hsz : (wT l k).size ≤ maxLen := by
          have := hz (l[k]) (by simp); simpa [wT, List.getD, hlt] using this
        have hal := ha (by omega)
        subst hal
        obtain ⟨c0, c1, c2, c3⟩ := hk k hlt
        have d0 := (hb.cell (by exact cell_lt c0)).trans c0
        have d1 := (hb.cell (by exact cell_lt c1)).trans c1
        have d2 := (hb.cell (by exact cell_lt c2)).trans c2
        have d3 := (hb.cell (by exact cell_lt c3)).trans c3
        have P1 : Hid _ := PRE ((texts l).drop (k + 1))
        have LF : Hid (0 ≤ left - (l.length : Int)) := by show 0 ≤ left - (l.length : Int); omega
        have HB : Hid _ := hb
        clear PRE hk hz TS c0 c1 c2 c3 hb
        generalize szS (left - l.length) ((texts l).take k) = x at *
        generalize hxx : szS (left - l.length) ((texts l).take (k + 1)) = xx at *
        have HXX : Hid _ := hxx
        clear hxx
        generalize wT l k = s at *
        have x1 : x ≤ 1048576 := by omega
        have SZ : Hid (∀ W, Calls Try.prog 36 #[.agg #[.int .i64 (wA l k), .string s, .int .i64 (wV l k), .int .i64 (wR l k)], .int .i64 x] W fun e w' => e = .returned (.int .i64 (if x - s.size < 0 then -1 else x - s.size)) ∧ Below W.heap.size W w') := fun W => szWrite_any _ s _ _ x W hsz hpos x1
        by_cases hc : x - (s.size : Int) < 0
        · rw [if_pos hc] at SN SZ
          have FIN : Hid (szSall (texts l) left = -1) := by
            rw [hA.out]
            rcases P1.out SN with h' | ⟨_, h'⟩
            · rw [TD.out] at h'; exact h'
            · have := LF.out; omega
          clear SN P1 HXX TD
          go_wp2_with fail
          refine (SZ.out _).mono ?_
          rintro e w1 ⟨rfl, b1⟩
          go_wp2
          go_ret
          exact ⟨ret_int FIN.out.symm, Below.and HB.out b1⟩
        · rw [if_neg hc] at SN SZ
          have SN' : Hid (xx = x - s.size) := SN
          clear SN P1 TD
          go_wp2_with fail
          refine (SZ.out _).mono ?_
          rintro e w1 ⟨rfl, b1⟩
          go_wp2
          go_roundw
          case rel => exact ⟨k + 1, by omega, by go_num, by rw [HXX.out, SN'.out], by rw [HXX.out, SN'.out]; omega, Below.and HB.out b1⟩
          case measure => simp [intOf]; omega
      · have hkk : k = l.length := by omega
        subst hkk
        clear PRE SN
        rw [TE.out] at hpos hle ⊢
        generalize szS (left - l.length) (texts l) = x at *
        go_wp2
        go_ret
        exact ⟨ret_int hA.out.symm, hb⟩

end Go.Proofs.Ytmpngehhojlmmaa
