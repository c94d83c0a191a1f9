/-
  The laws' own functions that write marks into a list of messages, and look for them.
-/
import Derived.Test.YtfedeljadckjiaaDoorMsgs
import Derived.Test.YtfedeljadckjiaaDoorMarks
namespace Go.Proofs.YtfedeljadckjiaaDoor
open Go.RowKit

def marksM (k : Int) (n : Nat) : ML := (List.range n).map fun (i : Nat) => (k + 3 * i, k + 3 * i + 1, k + 3 * i + 2)
theorem marksM_length (k : Int) (n : Nat) : (marksM k n).length = n := by simp [marksM]
theorem marksM_succ (k : Int) (n : Nat) : marksM k (n + 1) = marksM k n ++ [(k + 3 * n, k + 3 * n + 1, k + 3 * n + 2)] := by simp [marksM, List.range_succ]
theorem marksM_at (k : Int) (n i : Nat) (h : i < n) : mO (marksM k n) i = k + 3 * i ∧ mK (marksM k n) i = k + 3 * i + 1 ∧ mV (marksM k n) i = k + 3 * i + 2 := by
  simp [marksM, mO, mK, mV, List.getD, h]
def midM (k : Int) (l : ML) (i : Nat) : ML := marksM k i ++ l.drop i
theorem midM_length (k : Int) (l : ML) (i : Nat) (h : i ≤ l.length) : (midM k l i).length = l.length := by simp [midM, marksM_length]; omega
theorem midM_zero (k : Int) (l : ML) : midM k l 0 = l := by simp [midM, marksM]
theorem midM_full (k : Int) (l : ML) : midM k l l.length = marksM k l.length := by simp [midM]
theorem midM_step (k : Int) (l : ML) (i : Nat) (h : i < l.length) : (midM k l i).set i (k + 3 * i, k + 3 * i + 1, k + 3 * i + 2) = midM k l (i + 1) := by
  rw [midM, midM, marksM_succ, List.drop_eq_getElem_cons h, List.set_append_right _ _ (by rw [marksM_length]; omega), marksM_length, Nat.sub_self, List.set_cons_zero]
  simp

theorem owns_cap {w : World} {base e size n cap : Nat} {a : Option Addr} {xs : List Value} (h : w.ownsRow base e size (.slice a n cap) n xs) : cap ≤ maxLen := by
  obtain ⟨_, ⟨e, _⟩ | ⟨g, cap', cur, e, _, _, _, hc, _⟩⟩ := h
  · simp at e; rw [e.2.2]; exact Nat.zero_le _
  · simp at e; rw [e.2]; exact hc

set_option maxRecDepth 100000 in
set_option maxHeartbeats 1000000 in
theorem markMsgS_any (v : Value) (l : ML) (k : Int) (w : World) (h : w.ownsRow 0 75 3 v l.length (flatM l)) (hn : l.length ≤ 4194304) (hk0 : 0 ≤ k) (hk1 : k ≤ 4194304) :
    Calls Tryd.prog 68 #[v, .int .i64 k] w fun e w' => e = .returned (.int .i64 (k + 3 * l.length)) ∧ w'.ownsRow 0 75 3 v l.length (flatM (marksM k l.length)) ∧ Chg (fun g => v.ownBlock = some g) w w' := by
  obtain ⟨a, cap, hv⟩ := owns_val h
  have OW : Hid (w.ownsRow 0 75 3 v l.length (flatM l)) := h
  clear h
  rw [hv] at OW ⊢
  clear hv
  have hcap := owns_cap OW.out
  unfold maxLen at hcap
  go_enter Tryd.func68, Tryd.ntmps68
  go_wp2
  go_loopw [1, 5] (fun kk i wr => ∃ j : Nat, j ≤ l.length ∧ i = .int .i64 j ∧ kk = .int .i64 (k + 3 * j) ∧ wr.ownsRow 0 75 3 (.slice a l.length cap) l.length (flatM (midM k l j)) ∧ Chg (fun g => (Value.slice a l.length cap).ownBlock = some g) w wr)
    (fun _ i _ => l.length - (intOf i).toNat)
  case atStart => exact ⟨0, Nat.zero_le _, rfl, by simp, by rw [midM_zero]; exact OW.out, Chg.refl _ _⟩
  case round =>
    obtain ⟨j, hj, rfl, rfl, hown, hch⟩ := hrel
    by_cases hlt : j < l.length
    · have hex : ∃ g, a = some ⟨g, 0, none⟩ := by
        obtain ⟨_, ⟨e, e2⟩ | ⟨g, cap', cur, e, _⟩⟩ := hown
        · omega
        · simp at e; exact ⟨g, e.1⟩
      obtain ⟨g, rfl⟩ := hex
      have hml : (midM k l j).length = l.length := midM_length k l j hj
      have hat := flatM_at (midM k l j) j (by omega)
      have e0 := (hown.cellAt (j * 3) (by omega)).trans hat.1
      have e1 := (hown.cellAt (j * 3 + 1) (by omega)).trans hat.2.1
      have e2 := (hown.cellAt (j * 3 + 2) (by omega)).trans hat.2.2
      have f0 := hown.frozenAt (j * 3)
      have f1 := hown.frozenAt (j * 3 + 1)
      have f2 := hown.frozenAt (j * 3 + 2)
      have st := (hown.stored (j * 3) (.int .i64 (k + 3 * j))).1
      have st2 := (st.stored (j * 3 + 1) (.int .i64 (k + 3 * j + 1))).1
      have st3 := (st2.stored (j * 3 + 2) (.int .i64 (k + 3 * j + 2))).1
      rw [flatM_set _ _ _ _ j (by omega), midM_step k l j hlt] at st3
      have hch2 : Chg (fun g' => (Value.slice (some ⟨g, 0, none⟩) l.length cap).ownBlock = some g') w (((wr.setCell ⟨g, j * 3, none⟩ (.int .i64 (k + 3 * j))).setCell ⟨g, j * 3 + 1, none⟩ (.int .i64 (k + 3 * j + 1))).setCell ⟨g, j * 3 + 2, none⟩ (.int .i64 (k + 3 * j + 2))) :=
        ((hch.setAt g _ rfl _).setAt g _ rfl _).setAt g _ rfl _
      generalize mO (midM k l j) j = x0 at *
      generalize mK (midM k l j) j = x1 at *
      generalize mV (midM k l j) j = x2 at *
      have ST : Hid _ := And.intro st3 hch2
      clear st st2 st3 hch2 hown hch hml hat OW
      have hb0 : 0 ≤ k + 3 * (j : Int) := by omega
      have hb1 : k + 3 * (j : Int) ≤ 100000000 := by omega
      go_wp2
      go_roundw
      case rel => exact ⟨j + 1, by omega, by go_num, by go_num, by rw [show k + 3 * (j : Int) + 2 = k + 3 * (j : Int) + 1 + 1 by omega] at ST; exact ST.out.1, by rw [show k + 3 * (j : Int) + 2 = k + 3 * (j : Int) + 1 + 1 by omega] at ST; exact ST.out.2⟩
      case measure => simp [intOf]; omega
    · have hjl : j = l.length := by omega
      subst hjl
      go_wp2
      go_ret
      rw [midM_full] at hown
      exact ⟨rfl, hown, hch⟩

set_option maxRecDepth 100000 in
set_option maxHeartbeats 1000000 in
theorem heldMsgS_any (v : Value) (n : Nat) (k : Int) (w : World) (h : Row w v n (flatM (marksM k n))) (hn : n ≤ 4194304) (hk0 : 0 ≤ k) (hk1 : k ≤ 4194304) :
    Calls Tryd.prog 71 #[v, .int .i64 k] w fun e w' => e = .returned (.int .i64 (k + 3 * n)) ∧ w' = w := by
  have h' : Row w v (marksM k n).length (flatM (marksM k n)) := by rw [marksM_length]; exact h
  obtain ⟨a, b, off, cap, rfl, hcap, hmax, ha, ho, hk, hv⟩ := h'.msgs
  rw [marksM_length] at *
  unfold maxLen at hmax
  clear h h'
  go_enter Tryd.func71, Tryd.ntmps71
  go_wp2
  go_loop [1, 5] (fun kk i => ∃ j : Nat, j ≤ n ∧ i = .int .i64 j ∧ kk = .int .i64 (k + 3 * j)) (fun _ i => n - (intOf i).toNat)
  case atStart => exact ⟨0, Nat.zero_le _, rfl, by simp⟩
  case round =>
    obtain ⟨j, hj, rfl, rfl⟩ := hrel
    by_cases hlt : j < n
    · have hal := ha (by omega)
      subst hal
      have d0 : w.cell? ⟨b, off + j * 3, none⟩ = some (.int .i64 (k + 3 * j)) := by rw [ho j hlt, (marksM_at k n j hlt).1]
      have d1 : w.cell? ⟨b, off + j * 3 + 1, none⟩ = some (.int .i64 (k + 3 * j + 1)) := by rw [hk j hlt, (marksM_at k n j hlt).2.1]
      have d2 : w.cell? ⟨b, off + j * 3 + 2, none⟩ = some (.int .i64 (k + 3 * j + 1 + 1)) := by rw [hv j hlt, (marksM_at k n j hlt).2.2, show k + 3 * (j : Int) + 2 = k + 3 * (j : Int) + 1 + 1 by omega]
      clear ho hk hv
      have hb0 : 0 ≤ k + 3 * (j : Int) := by omega
      have hb1 : k + 3 * (j : Int) ≤ 100000000 := by omega
      go_wp2
      go_round
      case rel => exact ⟨j + 1, by omega, by go_num, by go_num⟩
      case measure => simp [intOf]; omega
    · have hjl : j = n := by omega
      subst hjl
      go_wp2
      go_ret
      exact ⟨rfl, rfl⟩

end Go.Proofs.YtfedeljadckjiaaDoor
