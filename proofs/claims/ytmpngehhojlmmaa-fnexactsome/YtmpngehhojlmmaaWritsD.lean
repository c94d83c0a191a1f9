/-
  Lists of writes: marked.
-/
import Derived.Test.YtmpngehhojlmmaaWritsC
namespace Go.Proofs.Ytmpngehhojlmmaa
open Go.RowKit

def marksW (k : Int) (n : Nat) : List Wr := (List.range n).map fun (i : Nat) => (k + 4 * i, markT (k + 4 * i + 1), k + 4 * i + 1 + 1, k + 4 * i + 1 + 1 + 1)
theorem marksW_length (k : Int) (n : Nat) : (marksW k n).length = n := by simp [marksW]
theorem marksW_succ (k : Int) (n : Nat) : marksW k (n + 1) = marksW k n ++ [(k + 4 * n, markT (k + 4 * n + 1), k + 4 * n + 1 + 1, k + 4 * n + 1 + 1 + 1)] := by simp [marksW, List.range_succ]
def midW (k : Int) (l : List Wr) (i : Nat) : List Wr := marksW k i ++ l.drop i
theorem midW_length (k : Int) (l : List Wr) (i : Nat) (h : i ≤ l.length) : (midW k l i).length = l.length := by simp [midW, marksW_length]; omega
theorem midW_zero (k : Int) (l : List Wr) : midW k l 0 = l := by simp [midW, marksW]
theorem midW_full (k : Int) (l : List Wr) : midW k l l.length = marksW k l.length := by simp [midW]
theorem midW_step (k : Int) (l : List Wr) (i : Nat) (h : i < l.length) : (midW k l i).set i (k + 4 * i, markT (k + 4 * i + 1), k + 4 * i + 1 + 1, k + 4 * i + 1 + 1 + 1) = midW k l (i + 1) := by
  rw [midW, midW, marksW_succ, List.drop_eq_getElem_cons h, List.set_append_right _ _ (by rw [marksW_length]; omega), marksW_length, Nat.sub_self, List.set_cons_zero]
  simp

set_option maxRecDepth 100000 in
set_option maxHeartbeats 1000000 in
theorem markWriteS_any (v : Value) (l : List Wr) (k : Int) (w : World) (h : w.ownsRow 0 35 4 v l.length (flatW l)) (hn : l.length ≤ 1048576) (hk0 : 0 < k) (hk1 : k ≤ 3500000) :
    Calls Try.prog 20 #[v, .int .i64 k] w fun e w' => e = .returned (.int .i64 (k + 4 * l.length)) ∧ w'.ownsRow 0 35 4 v l.length (flatW (marksW k l.length)) ∧ Chg (fun g => v.ownBlock = some g) w w' := by
  obtain ⟨a, cap, hv⟩ := owns_val h
  have hcap : cap ≤ maxLen := by
    obtain ⟨_, ⟨e, _⟩ | ⟨g, cap', cur, e, _, _, _, hc, _⟩⟩ := h
    · rw [hv] at e; simp at e; rw [e.2.2]; exact Nat.zero_le _
    · rw [hv] at e; simp at e; rw [e.2]; exact hc
  unfold maxLen at hcap
  have OW : Hid (w.ownsRow 0 35 4 v l.length (flatW l)) := h
  clear h
  rw [hv] at OW ⊢
  clear hv
  go_enter Try.func20, Try.ntmps20
  go_wp2
  go_loopw [1, 5] (fun kk i wr => ∃ j : Nat, j ≤ l.length ∧ i = .int .i64 j ∧ kk = .int .i64 (k + 4 * j) ∧ wr.ownsRow 0 35 4 (.slice a l.length cap) l.length (flatW (midW k l j)) ∧ Chg (fun g => (Value.slice a l.length cap).ownBlock = some g) w wr)
    (fun _ i _ => l.length - (intOf i).toNat)
  case atStart => exact ⟨0, Nat.zero_le _, rfl, by simp, by rw [midW_zero]; exact OW.out, Chg.refl _ _⟩
  case round =>
    obtain ⟨j, hj, rfl, rfl, hown, hch⟩ := hrel
    by_cases hlt : j < l.length
    · have hex : ∃ g, a = some ⟨g, 0, none⟩ := by
        obtain ⟨_, ⟨e, e2⟩ | ⟨g, cap', cur, e, _⟩⟩ := hown
        · omega
        · simp at e; exact ⟨g, e.1⟩
      obtain ⟨g, rfl⟩ := hex
      have hml : (midW k l j).length = l.length := midW_length k l j hj
      have hat := flatW_at (midW k l j) j (by omega)
      have SET := flatW_set (midW k l j) (k + 4 * j) (markT (k + 4 * j + 1)) (k + 4 * j + 1 + 1) (k + 4 * j + 1 + 1 + 1) j (by omega)
      rw [midW_step k l j hlt] at SET
      have HSET : Hid _ := SET
      have e0 := (hown.cellAt (j * 4) (by omega)).trans hat.1
      have f0 := hown.frozenAt (j * 4)
      have st := (hown.stored (j * 4) (.int .i64 (k + 4 * j))).1
      have hch1 : Chg (fun g' => (Value.slice (some ⟨g, 0, none⟩) l.length cap).ownBlock = some g') w (wr.setCell ⟨g, j * 4, none⟩ (.int .i64 (k + 4 * j))) := hch.setAt g _ rfl _
      have HA : Hid _ := hat
      have ST1 : Hid _ := And.intro st hch1
      clear st hch1 hown hch SET OW hat
      generalize wA (midW k l j) j = y0 at *
      have hb0 : 0 < k + 4 * (j : Int) + 1 := by omega
      have hbz : 0 ≤ k + 4 * (j : Int) := by omega
      have hb1 : k + 4 * (j : Int) + 1 ≤ 8000000 := by omega
      go_wp2_with fail
      refine (mark_text (k + 4 * j + 1) hb0 hb1 _).mono ?_
      rintro e w1 ⟨rfl, b1⟩
      have own1 := owns_below ST1.out.1 b1
      have ch1 := ST1.out.2.trans (Chg.of_below (F := fun g' => (Value.slice (some ⟨g, 0, none⟩) l.length cap).ownBlock = some g') b1) (fun _ _ e => e)
      have n1 : j * 4 ≠ j * 4 + 1 := by omega
      have n2 : j * 4 ≠ j * 4 + 2 := by omega
      have n3 : j * 4 ≠ j * 4 + 3 := by omega
      have e1 := (own1.cellAt (j * 4 + 1) (by omega)).trans ((List.getElem?_set_ne n1).trans HA.out.2.1)
      have e2 := (own1.cellAt (j * 4 + 2) (by omega)).trans ((List.getElem?_set_ne n2).trans HA.out.2.2.1)
      have e3 := (own1.cellAt (j * 4 + 3) (by omega)).trans ((List.getElem?_set_ne n3).trans HA.out.2.2.2)
      have f1 := own1.frozenAt (j * 4 + 1)
      have f2 := own1.frozenAt (j * 4 + 2)
      have f3 := own1.frozenAt (j * 4 + 3)
      have st := (((own1.stored (j * 4 + 1) (.string (markT (k + 4 * j + 1)))).1.stored (j * 4 + 2) (.int .i64 (k + 4 * j + 1 + 1))).1.stored (j * 4 + 3) (.int .i64 (k + 4 * j + 1 + 1 + 1))).1
      rw [HSET.out] at st
      have hch2 : Chg (fun g' => (Value.slice (some ⟨g, 0, none⟩) l.length cap).ownBlock = some g') w (((w1.setCell ⟨g, j * 4 + 1, none⟩ (.string (markT (k + 4 * j + 1)))).setCell ⟨g, j * 4 + 2, none⟩ (.int .i64 (k + 4 * j + 1 + 1))).setCell ⟨g, j * 4 + 3, none⟩ (.int .i64 (k + 4 * j + 1 + 1 + 1))) :=
        ((ch1.setAt g _ rfl _).setAt g _ rfl _).setAt g _ rfl _
      have ST2 : Hid _ := And.intro st hch2
      clear st hch2 own1 ch1 b1 ST1 HA HSET n1 n2 n3 e0 f0 hml
      generalize wT (midW k l j) j = y1 at *
      generalize wV (midW k l j) j = y2 at *
      generalize wR (midW k l j) j = y3 at *
      generalize markT (k + 4 * j + 1) = mt at *
      go_wp2
      go_roundw
      case rel => exact ⟨j + 1, by omega, by go_num, by go_num, ST2.out.1, ST2.out.2⟩
      case measure => simp [intOf]; omega
    · have hjl : j = l.length := by omega
      subst hjl
      go_wp2
      go_ret
      rw [midW_full] at hown
      exact ⟨rfl, hown, hch⟩

end Go.Proofs.Ytmpngehhojlmmaa
