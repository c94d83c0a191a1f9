/-
  Contracts of the laws' own functions that measure a tree.
-/
import Derived.Test.YtmoaccohnmkleaaTree
namespace Go.Proofs.Ytmoaccohnmkleaa
open Go.RowKit

set_option maxHeartbeats 400000 in
theorem szIntS_any (a : Option Addr) (n cap : Nat) (left : Int) (hn : n ≤ maxLen) (hl : 0 ≤ left) (hl2 : left ≤ 1048576) (w : World) :
    Calls Try.prog 21 #[.slice a n cap, .int .i64 left] w fun e w' => e = .returned (.int .i64 (if (n : Int) ≤ left then left - n else -1)) ∧ w' = w := by
  unfold maxLen at hn
  by_cases h : (n : Int) ≤ left
  · go_enter Try.func21, Try.ntmps21
    go_wp2
    go_ret
    exact ⟨rfl, rfl⟩
  · go_enter Try.func21, Try.ntmps21
    go_wp2
    go_ret
    exact ⟨rfl, rfl⟩

/-- WHAT szTree, szTreeS DO TO TREES OF A HEIGHT OF AT MOST n. -/
def SzTree (n : Nat) : Prop := ∀ (x : TV) (T : Tr) (left : Int) (w : World), TreeAt n w x T → 0 ≤ left → left ≤ 1048576 →
    Calls Try.prog 9 #[x.val, .int .i64 left] w fun e w' => e = .returned (.int .i64 (leftOf left (sizeT n T))) ∧ Below w.heap.size w w'
def SzTreeS (n : Nat) : Prop := ∀ (v : Value) (ts : List Tr) (left : Int) (w : World), TreesAt n w v ts → 0 ≤ left → left ≤ 1048576 →
    Calls Try.prog 22 #[v, .int .i64 left] w fun e w' => e = .returned (.int .i64 (leftOf left (sizeTs n ts))) ∧ Below w.heap.size w w'

theorem leftOf_yes {left : Int} {n : Nat} (h : (n : Int) ≤ left) : leftOf left n = left - n := if_pos h
theorem leftOf_no {left : Int} {n : Nat} (h : ¬ (n : Int) ≤ left) : leftOf left n = -1 := if_neg h

set_option maxHeartbeats 1000000 in
theorem szTreeS_of {n : Nat} (H : SzTree n) : SzTreeS n := by
  intro v ts left w hts hl0 hl1
  obtain ⟨xs, hxl, hrow, hk⟩ := hts
  obtain ⟨a, b, off, cap, rfl, hcap, hmax, ha, c0, c1, c2, c3, c4⟩ := hrow.trees
  unfold maxLen at hmax
  have XL : Hid (xs.length = ts.length) := hxl
  clear hxl
  by_cases hl : (xs.length : Int) ≤ left
  · go_enter Try.func22, Try.ntmps22
    go_wp2
    go_loopw [1, 5] (fun lf i wr => ∃ (k : Nat) (y : Int), k ≤ xs.length ∧ i = .int .i64 k ∧ lf = .int .i64 y ∧ 0 ≤ y ∧ y ≤ 1048576 ∧ Hid (y = left - xs.length - sumTo n ts k) ∧ Below w.heap.size w wr)
      (fun _ i _ => xs.length - (intOf i).toNat)
    case atStart => exact ⟨0, left - xs.length, Nat.zero_le _, rfl, rfl, by omega, by omega, by show _ = _; simp [sumTo], Below.refl _ _⟩
    case round =>
      obtain ⟨k, y, hkl, rfl, rfl, hy0, hy1, YE, hb⟩ := hrel
      by_cases hlt : k < xs.length
      · have hal := ha (by omega)
        subst hal
        have d0 := (hb.cell (by exact cell_lt (c0 k hlt))).trans (c0 k hlt)
        have d1 := (hb.cell (by exact cell_lt (c1 k hlt))).trans (c1 k hlt)
        have d2 := (hb.cell (by exact cell_lt (c2 k hlt))).trans (c2 k hlt)
        have d3 := (hb.cell (by exact cell_lt (c3 k hlt))).trans (c3 k hlt)
        have d4 := (hb.cell (by exact cell_lt (c4 k hlt))).trans (c4 k hlt)
        have T0 : Hid (TreeAt n wr (tvAt xs k) (ts.getD k noTr)) := (hk k hlt).below hb
        have S1 : Hid (sumTo n ts (k + 1) = sumTo n ts k + sizeT n (ts.getD k noTr)) := sumTo_succ n ts k (by have := XL.out; omega)
        have S2 : Hid (sumTo n ts (k + 1) ≤ (ts.map (sizeT n)).sum) := sumTo_le n ts (k + 1)
        clear c0 c1 c2 c3 c4 hk hrow ha
        by_cases hfit : (sizeT n (ts.getD k noTr) : Int) ≤ y
        · go_wp2_with fail
          refine (H (tvAt xs k) _ _ _ T0.out hy0 hy1).mono ?_
          rintro e w1 ⟨he, hb1⟩
          rw [leftOf_yes hfit] at he
          subst he
          have Y2 : Hid (y - (sizeT n (ts.getD k noTr) : Int) = left - xs.length - sumTo n ts (k + 1)) := by
            have e1 := YE.out; have e2 := S1.out
            show _ = _
            omega
          clear YE S1 S2 T0 d0 d1 d2 d3 d4
          generalize sizeT n (ts.getD k noTr) = s at *
          go_wp2
          go_roundw
          case rel => exact ⟨k + 1, _, by omega, by go_num, rfl, by omega, by omega, Y2, Below.and hb hb1⟩
          case measure => simp [intOf]; omega
        · go_wp2_with fail
          refine (H (tvAt xs k) _ _ _ T0.out hy0 hy1).mono ?_
          rintro e w1 ⟨he, hb1⟩
          rw [leftOf_no (by omega)] at he
          subst he
          have Y2 : Hid (leftOf left (sizeTs n ts) = -1) := by
            have e1 := YE.out; have e2 := S1.out; have e3 := S2.out; have e4 := XL.out
            refine leftOf_no ?_
            unfold sizeTs
            omega
          clear YE S1 S2 T0 d0 d1 d2 d3 d4
          generalize sizeT n (ts.getD k noTr) = s at *
          go_wp2
          go_ret
          exact ⟨ret_int Y2.out.symm, Below.and hb hb1⟩
      · have hkk : k = xs.length := by omega
        subst hkk
        have Y2 : Hid (leftOf left (sizeTs n ts) = y) := by
          have e1 := YE.out
          rw [XL.out, sumTo_all] at e1
          show _ = _
          rw [leftOf_yes (by have := XL.out; unfold sizeTs; omega)]
          unfold sizeTs
          omega
        clear c0 c1 c2 c3 c4 hk hrow ha YE
        go_wp2
        go_ret
        exact ⟨ret_int Y2.out.symm, hb⟩
  · have Y2 : Hid (leftOf left (sizeTs n ts) = -1) := leftOf_no (by have := XL.out; unfold sizeTs; omega)
    go_enter Try.func22, Try.ntmps22
    go_wp2
    go_ret
    exact ⟨ret_int Y2.out.symm, Below.refl _ _⟩

set_option maxHeartbeats 1000000 in
theorem szTree_of {n : Nat} (H : SzTreeS n) : SzTree (n + 1) := by
  intro x T left w ht hl0 hl1
  obtain ⟨lf, p, c, k, b⟩ := x
  obtain ⟨_, hp, hc, hb, hk⟩ := ht.parts
  simp only at hp hc hb hk
  obtain ⟨a1, cap1, rfl, m1⟩ := hp.len
  obtain ⟨a2, cap2, rfl, m2⟩ := hc.len
  obtain ⟨a4, cap4, rfl, m4⟩ := hb.len
  have KK : Hid (TreesAt n w k T.kids) := hk
  have hS : Hid (sizeT (n + 1) T = T.pairs.length + (T.cuts.length + (sizeTs n T.kids + T.buf.length))) := rfl
  clear hp hc hb hk ht
  show Calls Try.prog 9 #[.agg #[.bool lf, .slice a1 T.pairs.length cap1, .slice a2 T.cuts.length cap2, k, .slice a4 T.buf.length cap4], .int .i64 left] w _
  by_cases f1 : (T.pairs.length : Int) ≤ left
  · by_cases f2 : (T.cuts.length : Int) ≤ left - T.pairs.length
    · by_cases f3 : (sizeTs n T.kids : Int) ≤ left - T.pairs.length - T.cuts.length
      · by_cases f4 : (T.buf.length : Int) ≤ left - T.pairs.length - T.cuts.length - sizeTs n T.kids
        all_goals
          go_enter Try.func9, Try.ntmps9
          go_wp2_with fail
          refine (szPairS_any _ _ _ _ m1 (by omega) (by omega) _).mono ?_
          rintro e w1 ⟨rfl, rfl⟩
          go_wp2_with fail
          refine (szIntS_any _ _ _ _ m2 (by omega) (by omega) _).mono ?_
          rintro e w1 ⟨rfl, rfl⟩
          go_wp2_with fail
          refine (H _ T.kids _ _ (KK.out.below ((Below.refl _ _).alloc (Nat.le_refl _) _)) (by omega) (by omega)).mono ?_
          rintro e w1 ⟨he, hb1⟩
          rw [leftOf_yes f3] at he
          subst he
          obtain ⟨hc, hf⟩ := bcell hb1
          have BB : Hid (Below w.heap.size w w1) := ((Below.refl _ _).alloc (Nat.le_refl _) _).trans (hb1.mono (by simp))
          clear hb1
          generalize sizeTs n T.kids = s at *
          go_wp2_with fail
          refine (szMsgS_any _ _ _ _ m4 (by omega) (by omega) _).mono ?_
          rintro e w1 ⟨rfl, rfl⟩
          go_wp2
          go_ret
          refine ⟨ret_int ?_, BB.out⟩
          rw [hS.out]
          unfold leftOf
          split <;> omega
      · go_enter Try.func9, Try.ntmps9
        go_wp2_with fail
        refine (szPairS_any _ _ _ _ m1 (by omega) (by omega) _).mono ?_
        rintro e w1 ⟨rfl, rfl⟩
        go_wp2_with fail
        refine (szIntS_any _ _ _ _ m2 (by omega) (by omega) _).mono ?_
        rintro e w1 ⟨rfl, rfl⟩
        go_wp2_with fail
        refine (H _ T.kids _ _ (KK.out.below ((Below.refl _ _).alloc (Nat.le_refl _) _)) (by omega) (by omega)).mono ?_
        rintro e w1 ⟨he, hb1⟩
        rw [leftOf_no (by omega)] at he
        subst he
        have BB : Hid (Below w.heap.size w w1) := ((Below.refl _ _).alloc (Nat.le_refl _) _).trans (hb1.mono (by simp))
        clear hb1
        generalize sizeTs n T.kids = s at *
        go_wp2
        go_ret
        refine ⟨ret_int ?_, BB.out⟩
        rw [hS.out]
        unfold leftOf
        split <;> omega
    · go_enter Try.func9, Try.ntmps9
      go_wp2_with fail
      refine (szPairS_any _ _ _ _ m1 (by omega) (by omega) _).mono ?_
      rintro e w1 ⟨rfl, rfl⟩
      go_wp2_with fail
      refine (szIntS_any _ _ _ _ m2 (by omega) (by omega) _).mono ?_
      rintro e w1 ⟨rfl, rfl⟩
      go_wp2
      go_ret
      refine ⟨ret_int ?_, (Below.refl _ _).alloc (Nat.le_refl _) _⟩
      rw [hS.out]
      unfold leftOf
      split <;> omega
  · go_enter Try.func9, Try.ntmps9
    go_wp2_with fail
    refine (szPairS_any _ _ _ _ m1 (by omega) (by omega) _).mono ?_
    rintro e w1 ⟨rfl, rfl⟩
    go_wp2
    go_ret
    refine ⟨ret_int ?_, (Below.refl _ _).alloc (Nat.le_refl _) _⟩
    rw [hS.out]
    unfold leftOf
    split <;> omega

theorem szTree_any : ∀ n, SzTree n
  | 0 => fun _ _ _ _ h => h.elim
  | n + 1 => szTree_of (szTreeS_of (szTree_any n))

end Go.Proofs.Ytmoaccohnmkleaa
