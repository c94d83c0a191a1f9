/-
  The laws' own functions that write marks into a list of pairs, and look for them.
-/
import Derived.Test.YtfedeljadckjiaaDoorPairs
import Derived.Test.YtfedeljadckjiaaDoorSorted
namespace Go.Proofs.YtfedeljadckjiaaDoor
open Go.RowKit

theorem flatP_cons (p : Int × Int) (l : List (Int × Int)) : flatP (p :: l) = .int .i64 p.1 :: .int .i64 p.2 :: flatP l := rfl
theorem flatP_set (l : List (Int × Int)) (a b : Int) : ∀ i, i < l.length → ((flatP l).set (i * 2) (.int .i64 a)).set (i * 2 + 1) (.int .i64 b) = flatP (l.set i (a, b)) := by
  induction l with
  | nil => intro i h; simp at h
  | cons p l ih =>
    intro i h
    cases i with
    | zero => simp [flatP_cons]
    | succ i =>
      have := ih i (by simpa using h)
      rw [flatP_cons, List.set_cons_succ, flatP_cons, show (i + 1) * 2 = i * 2 + 1 + 1 by omega, List.set_cons_succ, List.set_cons_succ, List.set_cons_succ, List.set_cons_succ, this]

def marksP (k : Int) (n : Nat) : List (Int × Int) := (List.range n).map fun (i : Nat) => (k + 2 * i, k + 2 * i + 1)
theorem marksP_length (k : Int) (n : Nat) : (marksP k n).length = n := by simp [marksP]
theorem marksP_succ (k : Int) (n : Nat) : marksP k (n + 1) = marksP k n ++ [(k + 2 * n, k + 2 * n + 1)] := by simp [marksP, List.range_succ]
theorem marksP_at (k : Int) (n i : Nat) (h : i < n) : kOf (marksP k n) i = k + 2 * i ∧ vOf (marksP k n) i = k + 2 * i + 1 := by
  simp [marksP, kOf, vOf, List.getD, h]
def midP (k : Int) (l : List (Int × Int)) (i : Nat) : List (Int × Int) := marksP k i ++ l.drop i
theorem midP_length (k : Int) (l : List (Int × Int)) (i : Nat) (h : i ≤ l.length) : (midP k l i).length = l.length := by simp [midP, marksP_length]; omega
theorem midP_zero (k : Int) (l : List (Int × Int)) : midP k l 0 = l := by simp [midP, marksP]
theorem midP_full (k : Int) (l : List (Int × Int)) : midP k l l.length = marksP k l.length := by simp [midP]
theorem midP_step (k : Int) (l : List (Int × Int)) (i : Nat) (h : i < l.length) : (midP k l i).set i (k + 2 * i, k + 2 * i + 1) = midP k l (i + 1) := by
  rw [midP, midP, marksP_succ, List.drop_eq_getElem_cons h, List.set_append_right _ _ (by rw [marksP_length]; omega), marksP_length, Nat.sub_self, List.set_cons_zero]
  simp

set_option maxHeartbeats 1000000 in
theorem markPairS_any (v : Value) (l : List (Int × Int)) (k : Int) (w : World) (h : w.ownsRow 0 73 2 v l.length (flatP l)) (hn : l.length ≤ 4194304) (hk0 : 0 ≤ k) (hk1 : k ≤ 4194304) :
    Calls Tryd.prog 66 #[v, .int .i64 k] w fun e w' => e = .returned (.int .i64 (k + 2 * l.length)) ∧ w'.ownsRow 0 73 2 v l.length (flatP (marksP k l.length)) ∧ Chg (fun g => v.ownBlock = some g) w w' := by
  obtain ⟨a, cap, hv⟩ := owns_val h
  have hcap : cap ≤ maxLen := by
    obtain ⟨_, ⟨e, _⟩ | ⟨g, cap', cur, e, _, _, _, hc, _⟩⟩ := h
    · rw [hv] at e; simp at e; rw [e.2.2]; exact Nat.zero_le _
    · rw [hv] at e; simp at e; rw [e.2]; exact hc
  unfold maxLen at hcap
  have OW : Hid (w.ownsRow 0 73 2 v l.length (flatP l)) := h
  clear h
  rw [hv] at OW ⊢
  clear hv
  go_enter Tryd.func66, Tryd.ntmps66
  go_wp2
  go_loopw [1, 5] (fun kk i wr => ∃ j : Nat, j ≤ l.length ∧ i = .int .i64 j ∧ kk = .int .i64 (k + 2 * j) ∧ wr.ownsRow 0 73 2 (.slice a l.length cap) l.length (flatP (midP k l j)) ∧ Chg (fun g => (Value.slice a l.length cap).ownBlock = some g) w wr)
    (fun _ i _ => l.length - (intOf i).toNat)
  case atStart => exact ⟨0, Nat.zero_le _, rfl, by simp, by rw [midP_zero]; exact OW.out, Chg.refl _ _⟩
  case round =>
    obtain ⟨j, hj, rfl, rfl, hown, hch⟩ := hrel
    by_cases hlt : j < l.length
    · have hex : ∃ g, a = some ⟨g, 0, none⟩ := by
        obtain ⟨_, ⟨e, e2⟩ | ⟨g, cap', cur, e, _⟩⟩ := hown
        · omega
        · simp at e; exact ⟨g, e.1⟩
      obtain ⟨g, rfl⟩ := hex
      have hml : (midP k l j).length = l.length := midP_length k l j hj
      have hat := flatP_at (midP k l j) j (by omega)
      have e0 := (hown.cellAt (j * 2) (by omega)).trans hat.1
      have e1 := (hown.cellAt (j * 2 + 1) (by omega)).trans hat.2
      have f0 := hown.frozenAt (j * 2)
      have f1 := hown.frozenAt (j * 2 + 1)
      have st := (hown.stored (j * 2) (.int .i64 (k + 2 * j))).1
      have st2 := (st.stored (j * 2 + 1) (.int .i64 (k + 2 * j + 1))).1
      rw [flatP_set _ _ _ j (by omega), midP_step k l j hlt] at st2
      have hch2 : Chg (fun g' => (Value.slice (some ⟨g, 0, none⟩) l.length cap).ownBlock = some g') w ((wr.setCell ⟨g, j * 2, none⟩ (.int .i64 (k + 2 * j))).setCell ⟨g, j * 2 + 1, none⟩ (.int .i64 (k + 2 * j + 1))) :=
        (hch.setAt g _ rfl _).setAt g _ rfl _
      generalize kOf (midP k l j) j = x0 at *
      generalize vOf (midP k l j) j = x1 at *
      have ST : Hid _ := And.intro st2 hch2
      clear st st2 hch2 hown hch hml hat OW
      have hb0 : 0 ≤ k + 2 * (j : Int) := by omega
      have hb1 : k + 2 * (j : Int) ≤ 100000000 := by omega
      go_wp2
      go_roundw
      case rel => exact ⟨j + 1, by omega, by go_num, by go_num, ST.out.1, ST.out.2⟩
      case measure => simp [intOf]; omega
    · have hjl : j = l.length := by omega
      subst hjl
      go_wp2
      go_ret
      rw [midP_full] at hown
      exact ⟨rfl, hown, hch⟩

set_option maxHeartbeats 1000000 in
theorem heldPairS_any (v : Value) (n : Nat) (k : Int) (w : World) (h : Row w v n (flatP (marksP k n))) (hn : n ≤ 4194304) (hk0 : 0 ≤ k) (hk1 : k ≤ 4194304) :
    Calls Tryd.prog 69 #[v, .int .i64 k] w fun e w' => e = .returned (.int .i64 (k + 2 * n)) ∧ w' = w := by
  have h' : Row w v (marksP k n).length (flatP (marksP k n)) := by rw [marksP_length]; exact h
  obtain ⟨a, b, off, cap, rfl, hcap, hmax, ha, hk, hv⟩ := h'.pairs
  rw [marksP_length] at *
  unfold maxLen at hmax
  clear h h'
  go_enter Tryd.func69, Tryd.ntmps69
  go_wp2
  go_loop [1, 5] (fun kk i => ∃ j : Nat, j ≤ n ∧ i = .int .i64 j ∧ kk = .int .i64 (k + 2 * j)) (fun _ i => n - (intOf i).toNat)
  case atStart => exact ⟨0, Nat.zero_le _, rfl, by simp⟩
  case round =>
    obtain ⟨j, hj, rfl, rfl⟩ := hrel
    by_cases hlt : j < n
    · have hal := ha (by omega)
      subst hal
      have d0 : w.cell? ⟨b, off + j * 2, none⟩ = some (.int .i64 (k + 2 * j)) := by rw [hk j hlt, (marksP_at k n j hlt).1]
      have d1 : w.cell? ⟨b, off + j * 2 + 1, none⟩ = some (.int .i64 (k + 2 * j + 1)) := by rw [hv j hlt, (marksP_at k n j hlt).2]
      clear hk hv
      have hb0 : 0 ≤ k + 2 * (j : Int) := by omega
      have hb1 : k + 2 * (j : Int) ≤ 100000000 := by omega
      go_wp2
      go_round
      case rel => exact ⟨j + 1, by omega, by go_num, by go_num⟩
      case measure => simp [intOf]; omega
    · have hjl : j = n := by omega
      subst hjl
      go_wp2
      go_ret
      exact ⟨rfl, rfl⟩

end Go.Proofs.YtfedeljadckjiaaDoor
