/-
  Strong contracts of the laws' marks: numbers; lists that are empty; trees whose kids are zero.
-/
import Derived.Test.YtfedeljadckjiaaDoorMarksM
import Derived.Test.YtfedeljadckjiaaDoorTreeEq
import Derived.Test.YtfedeljadckjiaaDoorNodeMath
namespace Go.Proofs.YtfedeljadckjiaaDoor
open Go.RowKit

def marksI (k : Int) (n : Nat) : List Int := (List.range n).map fun (i : Nat) => k + i
theorem marksI_length (k : Int) (n : Nat) : (marksI k n).length = n := by simp [marksI]
theorem marksI_succ (k : Int) (n : Nat) : marksI k (n + 1) = marksI k n ++ [k + n] := by simp [marksI, List.range_succ]
theorem marksI_at (k : Int) (n i : Nat) (h : i < n) : iAt (marksI k n) i = k + i := by simp [marksI, iAt, List.getD, h]
def midI (k : Int) (l : List Int) (i : Nat) : List Int := marksI k i ++ l.drop i
theorem midI_length (k : Int) (l : List Int) (i : Nat) (h : i ≤ l.length) : (midI k l i).length = l.length := by simp [midI, marksI_length]; omega
theorem midI_zero (k : Int) (l : List Int) : midI k l 0 = l := by simp [midI, marksI]
theorem midI_full (k : Int) (l : List Int) : midI k l l.length = marksI k l.length := by simp [midI]
theorem midI_step (k : Int) (l : List Int) (i : Nat) (h : i < l.length) : (midI k l i).set i (k + i) = midI k l (i + 1) := by
  rw [midI, midI, marksI_succ, List.drop_eq_getElem_cons h, List.set_append_right _ _ (by rw [marksI_length]; omega), marksI_length, Nat.sub_self, List.set_cons_zero]
  simp
theorem flatI_setI (l : List Int) (s : Int) (i : Nat) : (flatI l).set i (.int .i64 s) = flatI (l.set i s) := by simp [flatI, List.map_set]
theorem flatI_atI (l : List Int) (i : Nat) (h : i < l.length) : (flatI l)[i]? = some (.int .i64 (iAt l i)) := by simp [flatI, iAt, List.getD, h]

set_option maxHeartbeats 1000000 in
theorem markIntS_s (v : Value) (l : List Int) (k : Int) (w : World) (h : w.ownsRow 0 3 1 v l.length (flatI l)) (hn : l.length ≤ 100000) (hk0 : 0 ≤ k) (hk1 : k ≤ 4194304) :
    Calls Tryd.prog 33 #[v, .int .i64 k] w fun e w' => e = .returned (.int .i64 (k + l.length)) ∧ w'.ownsRow 0 3 1 v l.length (flatI (marksI k l.length)) ∧ Chg (fun g => v.ownBlock = some g) w w' := by
  obtain ⟨a, cap, hv⟩ := owns_val h
  have hcap : cap ≤ maxLen := by
    obtain ⟨_, ⟨e, _⟩ | ⟨g, cap', cur, e, _, _, _, hc, _⟩⟩ := h
    · rw [hv] at e; simp at e; rw [e.2.2]; exact Nat.zero_le _
    · rw [hv] at e; simp at e; rw [e.2]; exact hc
  unfold maxLen at hcap
  have OW : Hid (w.ownsRow 0 3 1 v l.length (flatI l)) := h
  clear h
  rw [hv] at OW ⊢
  clear hv
  go_enter Tryd.func33, Tryd.ntmps33
  go_wp2
  go_loopw [1, 5] (fun kk i wr => ∃ j : Nat, j ≤ l.length ∧ i = .int .i64 j ∧ kk = .int .i64 (k + j) ∧ wr.ownsRow 0 3 1 (.slice a l.length cap) l.length (flatI (midI k l j)) ∧ Chg (fun g => (Value.slice a l.length cap).ownBlock = some g) w wr)
    (fun _ i _ => l.length - (intOf i).toNat)
  case atStart => exact ⟨0, Nat.zero_le _, rfl, by simp, by rw [midI_zero]; exact OW.out, Chg.refl _ _⟩
  case round =>
    obtain ⟨j, hj, rfl, rfl, hown, hch⟩ := hrel
    by_cases hlt : j < l.length
    · have hex : ∃ g, a = some ⟨g, 0, none⟩ := by
        obtain ⟨_, ⟨e, e2⟩ | ⟨g, cap', cur, e, _⟩⟩ := hown
        · omega
        · simp at e; exact ⟨g, e.1⟩
      obtain ⟨g, rfl⟩ := hex
      have hml : (midI k l j).length = l.length := midI_length k l j hj
      have hat := flatI_atI (midI k l j) j (by omega)
      have e0 := (hown.cellAt j (by omega)).trans hat
      have f0 := hown.frozenAt j
      have st := (hown.stored j (.int .i64 (k + j))).1
      rw [flatI_setI, midI_step k l j hlt] at st
      have hch2 : Chg (fun g' => (Value.slice (some ⟨g, 0, none⟩) l.length cap).ownBlock = some g') w (wr.setCell ⟨g, j, none⟩ (.int .i64 (k + j))) := hch.setAt g _ rfl _
      generalize iAt (midI k l j) j = x0 at *
      have ST : Hid _ := And.intro st hch2
      clear st hch2 hown hch hml hat OW
      have hb0 : 0 ≤ k + (j : Int) := by omega
      have hb1 : k + (j : Int) ≤ 100000000 := by omega
      go_wp2
      go_roundw
      case rel => exact ⟨j + 1, by omega, by go_num, by go_num, ST.out.1, ST.out.2⟩
      case measure => simp [intOf]; omega
    · have hjl : j = l.length := by omega
      subst hjl
      go_wp2
      go_ret
      rw [midI_full] at hown
      exact ⟨rfl, hown, hch⟩

set_option maxHeartbeats 1000000 in
theorem heldIntS_s (v : Value) (n : Nat) (k : Int) (w : World) (h : Row w v n (flatI (marksI k n))) (hn : n ≤ 100000) (hk0 : 0 ≤ k) (hk1 : k ≤ 4194304) :
    Calls Tryd.prog 37 #[v, .int .i64 k] w fun e w' => e = .returned (.int .i64 (k + n)) ∧ w' = w := by
  have h' : Row w v (marksI k n).length (flatI (marksI k n)) := by rw [marksI_length]; exact h
  obtain ⟨a, b, off, cap, rfl, hcap, hmax, ha, hk⟩ := h'.ints
  rw [marksI_length] at *
  unfold maxLen at hmax
  clear h h'
  go_enter Tryd.func37, Tryd.ntmps37
  go_wp2
  go_loop [1, 5] (fun kk i => ∃ j : Nat, j ≤ n ∧ i = .int .i64 j ∧ kk = .int .i64 (k + j)) (fun _ i => n - (intOf i).toNat)
  case atStart => exact ⟨0, Nat.zero_le _, rfl, by simp⟩
  case round =>
    obtain ⟨j, hj, rfl, rfl⟩ := hrel
    by_cases hlt : j < n
    · have hal := ha (by omega)
      subst hal
      have d0 : w.cell? ⟨b, off + j, none⟩ = some (.int .i64 (k + j)) := by rw [hk j hlt, marksI_at k n j hlt]
      clear hk
      have hb0 : 0 ≤ k + (j : Int) := by omega
      have hb1 : k + (j : Int) ≤ 100000000 := by omega
      go_wp2
      go_round
      case rel => exact ⟨j + 1, by omega, by go_num, by go_num⟩
      case measure => simp [intOf]; omega
    · have hjl : j = n := by omega
      subst hjl
      go_wp2
      go_ret
      exact ⟨rfl, rfl⟩

set_option maxHeartbeats 400000 in
theorem markPairS_nil (a : Option Addr) (q : Nat) (k : Int) (w : World) : Calls Tryd.prog 66 #[.slice a 0 q, .int .i64 k] w fun e w' => e = .returned (.int .i64 k) ∧ w' = w := by
  go_enter Tryd.func66, Tryd.ntmps66
  go_wp2
  go_loop [1, 5] (fun kk i => kk = .int .i64 k ∧ i = .int .i64 0) (fun _ _ => 0)
  case atStart => exact ⟨rfl, rfl⟩
  case round =>
    obtain ⟨rfl, rfl⟩ := hrel
    go_wp2
    go_ret
    exact ⟨rfl, rfl⟩
set_option maxHeartbeats 400000 in
theorem heldPairS_nil (a : Option Addr) (q : Nat) (k : Int) (w : World) : Calls Tryd.prog 69 #[.slice a 0 q, .int .i64 k] w fun e w' => e = .returned (.int .i64 k) ∧ w' = w := by
  go_enter Tryd.func69, Tryd.ntmps69
  go_wp2
  go_loop [1, 5] (fun kk i => kk = .int .i64 k ∧ i = .int .i64 0) (fun _ _ => 0)
  case atStart => exact ⟨rfl, rfl⟩
  case round =>
    obtain ⟨rfl, rfl⟩ := hrel
    go_wp2
    go_ret
    exact ⟨rfl, rfl⟩
set_option maxHeartbeats 400000 in
theorem markIntS_nil (a : Option Addr) (q : Nat) (k : Int) (w : World) : Calls Tryd.prog 33 #[.slice a 0 q, .int .i64 k] w fun e w' => e = .returned (.int .i64 k) ∧ w' = w := by
  go_enter Tryd.func33, Tryd.ntmps33
  go_wp2
  go_loop [1, 5] (fun kk i => kk = .int .i64 k ∧ i = .int .i64 0) (fun _ _ => 0)
  case atStart => exact ⟨rfl, rfl⟩
  case round =>
    obtain ⟨rfl, rfl⟩ := hrel
    go_wp2
    go_ret
    exact ⟨rfl, rfl⟩
set_option maxHeartbeats 400000 in
theorem heldIntS_nil (a : Option Addr) (q : Nat) (k : Int) (w : World) : Calls Tryd.prog 37 #[.slice a 0 q, .int .i64 k] w fun e w' => e = .returned (.int .i64 k) ∧ w' = w := by
  go_enter Tryd.func37, Tryd.ntmps37
  go_wp2
  go_loop [1, 5] (fun kk i => kk = .int .i64 k ∧ i = .int .i64 0) (fun _ _ => 0)
  case atStart => exact ⟨rfl, rfl⟩
  case round =>
    obtain ⟨rfl, rfl⟩ := hrel
    go_wp2
    go_ret
    exact ⟨rfl, rfl⟩
set_option maxHeartbeats 400000 in
theorem markMsgS_nil (a : Option Addr) (q : Nat) (k : Int) (w : World) : Calls Tryd.prog 68 #[.slice a 0 q, .int .i64 k] w fun e w' => e = .returned (.int .i64 k) ∧ w' = w := by
  go_enter Tryd.func68, Tryd.ntmps68
  go_wp2
  go_loop [1, 5] (fun kk i => kk = .int .i64 k ∧ i = .int .i64 0) (fun _ _ => 0)
  case atStart => exact ⟨rfl, rfl⟩
  case round =>
    obtain ⟨rfl, rfl⟩ := hrel
    go_wp2
    go_ret
    exact ⟨rfl, rfl⟩
set_option maxHeartbeats 400000 in
theorem heldMsgS_nil (a : Option Addr) (q : Nat) (k : Int) (w : World) : Calls Tryd.prog 71 #[.slice a 0 q, .int .i64 k] w fun e w' => e = .returned (.int .i64 k) ∧ w' = w := by
  go_enter Tryd.func71, Tryd.ntmps71
  go_wp2
  go_loop [1, 5] (fun kk i => kk = .int .i64 k ∧ i = .int .i64 0) (fun _ _ => 0)
  case atStart => exact ⟨rfl, rfl⟩
  case round =>
    obtain ⟨rfl, rfl⟩ := hrel
    go_wp2
    go_ret
    exact ⟨rfl, rfl⟩
set_option maxHeartbeats 400000 in
theorem markTreeS_nil (a : Option Addr) (q : Nat) (k : Int) (w : World) : Calls Tryd.prog 67 #[.slice a 0 q, .int .i64 k] w fun e w' => e = .returned (.int .i64 k) ∧ w' = w := by
  go_enter Tryd.func67, Tryd.ntmps67
  go_wp2
  go_loop [1, 5] (fun kk i => kk = .int .i64 k ∧ i = .int .i64 0) (fun _ _ => 0)
  case atStart => exact ⟨rfl, rfl⟩
  case round =>
    obtain ⟨rfl, rfl⟩ := hrel
    go_wp2
    go_ret
    exact ⟨rfl, rfl⟩
set_option maxHeartbeats 400000 in
theorem heldTreeS_nil (a : Option Addr) (q : Nat) (k : Int) (w : World) : Calls Tryd.prog 70 #[.slice a 0 q, .int .i64 k] w fun e w' => e = .returned (.int .i64 k) ∧ w' = w := by
  go_enter Tryd.func70, Tryd.ntmps70
  go_wp2
  go_loop [1, 5] (fun kk i => kk = .int .i64 k ∧ i = .int .i64 0) (fun _ _ => 0)
  case atStart => exact ⟨rfl, rfl⟩
  case round =>
    obtain ⟨rfl, rfl⟩ := hrel
    go_wp2
    go_ret
    exact ⟨rfl, rfl⟩

end Go.Proofs.YtfedeljadckjiaaDoor
