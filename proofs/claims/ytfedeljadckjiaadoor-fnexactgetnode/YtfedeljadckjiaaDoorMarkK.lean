/-
  Strong contracts of the laws' marks: trees whose kids are zero.
-/
import Derived.Test.YtfedeljadckjiaaDoorMarkG
namespace Go.Proofs.YtfedeljadckjiaaDoor
open Go.RowKit

/-- the kids, marked from k on -/
def marksK (k : Int) (n : Nat) : List TV := (List.range n).map fun (i : Nat) => ⟨(k + i) % 3 == 0, .slice none 0 0, .slice none 0 0, .slice none 0 0, .slice none 0 0⟩
def zeroTV : TV := ⟨false, .slice none 0 0, .slice none 0 0, .slice none 0 0, .slice none 0 0⟩
theorem marksK_length (k : Int) (n : Nat) : (marksK k n).length = n := by simp [marksK]
theorem marksK_succ (k : Int) (n : Nat) : marksK k (n + 1) = marksK k n ++ [⟨(k + n) % 3 == 0, .slice none 0 0, .slice none 0 0, .slice none 0 0, .slice none 0 0⟩] := by simp [marksK, List.range_succ]
def midK (k : Int) (n j : Nat) : List TV := marksK k j ++ List.replicate (n - j) zeroTV
theorem midK_length (k : Int) (n j : Nat) (h : j ≤ n) : (midK k n j).length = n := by simp [midK, marksK_length]; omega
theorem midK_zero (k : Int) (n : Nat) : midK k n 0 = List.replicate n zeroTV := by simp [midK, marksK]
theorem midK_full (k : Int) (n : Nat) : midK k n n = marksK k n := by simp [midK]
theorem midK_at (k : Int) (n j : Nat) (h : j < n) : tvAt (midK k n j) j = zeroTV := by
  have : (midK k n j)[j]? = some zeroTV := by
    rw [midK, List.getElem?_append_right (by rw [marksK_length]; omega), marksK_length, Nat.sub_self, List.getElem?_replicate_of_lt (by omega)]
  simp [tvAt, List.getD, this]
theorem midK_step (k : Int) (n j : Nat) (h : j < n) : (midK k n j).set j ⟨(k + j) % 3 == 0, .slice none 0 0, .slice none 0 0, .slice none 0 0, .slice none 0 0⟩ = midK k n (j + 1) := by
  obtain ⟨m, hm⟩ : ∃ m, n - j = m + 1 := ⟨n - j - 1, by omega⟩
  rw [midK, midK, marksK_succ, hm, show n - (j + 1) = m by omega, List.replicate_succ, List.set_append_right _ _ (by rw [marksK_length]; omega), marksK_length, Nat.sub_self, List.set_cons_zero, List.append_assoc, List.singleton_append]
theorem marksK_at (k : Int) (n i : Nat) (h : i < n) : tvAt (marksK k n) i = ⟨(k + i) % 3 == 0, .slice none 0 0, .slice none 0 0, .slice none 0 0, .slice none 0 0⟩ := by simp [marksK, tvAt, List.getD, h]
/-- one flag of a row of trees is set -/
theorem flatT_flag (l : List TV) (b : Bool) : ∀ i, i < l.length → (flatT l).set (i * 5) (.bool b) = flatT (l.set i ⟨b, (tvAt l i).p, (tvAt l i).c, (tvAt l i).k, (tvAt l i).b⟩) := by
  induction l with
  | nil => intro i h; simp at h
  | cons p l ih =>
    intro i h
    cases i with
    | zero => simp [flatT_cons, tvAt]
    | succ i =>
      have := ih i (by simpa using h)
      rw [flatT_cons, List.set_cons_succ, flatT_cons, show (i + 1) * 5 = i * 5 + 1 + 1 + 1 + 1 + 1 by omega]
      simp only [List.set_cons_succ, this]
      simp [tvAt]

set_option maxRecDepth 100000 in
set_option maxHeartbeats 2000000 in
theorem markTreeS_z (M n : Nat) (k : Int) (w : World) (h : w.ownsRow 0 29 5 (.slice (some ⟨M, 0, none⟩) n n) n (flatT (List.replicate n zeroTV))) (hn : n ≤ 10) (hk0 : 0 ≤ k) (hk1 : k ≤ 4194304) :
    Calls Tryd.prog 67 #[.slice (some ⟨M, 0, none⟩) n n, .int .i64 k] w fun e w' => e = .returned (.int .i64 (k + n)) ∧ w'.ownsRow 0 29 5 (.slice (some ⟨M, 0, none⟩) n n) n (flatT (marksK k n)) ∧ Chg (fun g => g = M) w w' := by
  have OW : Hid _ := h
  clear h
  go_enter Tryd.func67, Tryd.ntmps67
  go_wp2
  go_loopw [1, 5] (fun kk i wr => ∃ j : Nat, j ≤ n ∧ i = .int .i64 j ∧ kk = .int .i64 (k + j) ∧ Hid (wr.ownsRow 0 29 5 (.slice (some ⟨M, 0, none⟩) n n) n (flatT (midK k n j)) ∧ Chg (fun g => g = M) w wr)) (fun _ i _ => n - (intOf i).toNat)
  case atStart => exact ⟨0, Nat.zero_le _, rfl, by simp, by rw [midK_zero]; exact OW.out, Chg.refl _ _⟩
  case round =>
    obtain ⟨j, hj, rfl, rfl, hI⟩ := hrel
    obtain ⟨hown, hch⟩ := hI.out
    clear OW hI
    by_cases hlt : j < n
    · have hml := midK_length k n j hj
      have hat := flatT_at (midK k n j) j (by omega)
      rw [midK_at k n j hlt] at hat
      simp only [zeroTV] at hat
      have e0 := (hown.cellAt (j * 5) (by omega)).trans hat.1
      have f0 := hown.frozenAt (j * 5)
      have st := (hown.stored (j * 5) (.bool ((k + j) % 3 == 0))).1
      rw [flatT_flag _ _ j (by omega), midK_at k n j hlt] at st
      simp only [zeroTV] at st
      rw [midK_step k n j hlt] at st
      have hch2 : Chg (fun g => g = M) w (wr.setCell ⟨M, j * 5, none⟩ (.bool ((k + j) % 3 == 0))) := hch.setAt M _ rfl _
      have c1 := (hown.cellAt (j * 5 + 1) (by omega)).trans hat.2.1
      have c2 := (hown.cellAt (j * 5 + 2) (by omega)).trans hat.2.2.1
      have c3 := (hown.cellAt (j * 5 + 3) (by omega)).trans hat.2.2.2.1
      have c4 := (hown.cellAt (j * 5 + 4) (by omega)).trans hat.2.2.2.2
      have ST : Hid _ := And.intro st hch2
      clear st hch2 hown hch hml hat
      have hb0 : 0 ≤ k + (j : Int) := by omega
      have hb1 : k + (j : Int) ≤ 100000000 := by omega
      go_wp2_with fail
      refine (markPairS_nil none 0 (k + j + 1) _).mono ?_
      rintro e u1 ⟨rfl, hu⟩
      subst hu
      go_wp2_with fail
      refine (markIntS_nil none 0 (k + j + 1) _).mono ?_
      rintro e u1 ⟨rfl, hu⟩
      subst hu
      go_wp2_with fail
      refine (markTreeS_nil none 0 (k + j + 1) _).mono ?_
      rintro e u1 ⟨rfl, hu⟩
      subst hu
      go_wp2_with fail
      refine (markMsgS_nil none 0 (k + j + 1) _).mono ?_
      rintro e u1 ⟨rfl, hu⟩
      subst hu
      go_wp2
      go_roundw
      case rel => exact ⟨j + 1, by omega, by go_num, by go_num, ST.out⟩
      case measure => simp [intOf]; omega
    · have hjl : j = n := by omega
      subst hjl
      go_wp2
      go_ret
      rw [midK_full] at hown
      exact ⟨rfl, hown, hch⟩

set_option maxRecDepth 100000 in
set_option maxHeartbeats 2000000 in
theorem heldTreeS_z (v : Value) (n : Nat) (k : Int) (w : World) (h : Row w v n (flatT (marksK k n))) (hn : n ≤ 10) (hk0 : 0 ≤ k) (hk1 : k ≤ 4194304) :
    Calls Tryd.prog 70 #[v, .int .i64 k] w fun e w' => e = .returned (.int .i64 (k + n)) ∧ w' = w := by
  have h' : Row w v (marksK k n).length (flatT (marksK k n)) := by rw [marksK_length]; exact h
  obtain ⟨a, b, off, cap, rfl, hcap, hmax, ha, q0, q1, q2, q3, q4⟩ := h'.trees
  rw [marksK_length] at *
  unfold maxLen at hmax
  clear h h'
  go_enter Tryd.func70, Tryd.ntmps70
  go_wp2
  go_loop [1, 5] (fun kk i => ∃ j : Nat, j ≤ n ∧ i = .int .i64 j ∧ kk = .int .i64 (k + j)) (fun _ i => n - (intOf i).toNat)
  case atStart => exact ⟨0, Nat.zero_le _, rfl, by simp⟩
  case round =>
    obtain ⟨j, hj, rfl, rfl⟩ := hrel
    by_cases hlt : j < n
    · have hal := ha (by omega)
      subst hal
      have c0 := q0 j hlt
      have c1 := q1 j hlt
      have c2 := q2 j hlt
      have c3 := q3 j hlt
      have c4 := q4 j hlt
      rw [marksK_at k n j hlt] at c0 c1 c2 c3 c4
      simp only at c0 c1 c2 c3 c4
      clear q0 q1 q2 q3 q4
      have hb0 : 0 ≤ k + (j : Int) := by omega
      have hb1 : k + (j : Int) ≤ 100000000 := by omega
      have hbs : (((k + (j : Int)) % 3 == 0) != ((k + (j : Int)) % 3 == 0)) = false := by simp
      go_wp2_with fail
      refine (heldPairS_nil none 0 (k + j + 1) _).mono ?_
      rintro e u1 ⟨rfl, hu⟩
      subst hu
      go_wp2_with fail
      refine (heldIntS_nil none 0 (k + j + 1) _).mono ?_
      rintro e u1 ⟨rfl, hu⟩
      subst hu
      go_wp2_with fail
      refine (heldTreeS_nil none 0 (k + j + 1) _).mono ?_
      rintro e u1 ⟨rfl, hu⟩
      subst hu
      go_wp2_with fail
      refine (heldMsgS_nil none 0 (k + j + 1) _).mono ?_
      rintro e u1 ⟨rfl, hu⟩
      subst hu
      go_wp2
      go_round
      case rel => exact ⟨j + 1, by omega, by go_num, by go_num⟩
      case measure => simp [intOf]; omega
    · have hjl : j = n := by omega
      subst hjl
      go_wp2
      go_ret
      exact ⟨rfl, rfl⟩

end Go.Proofs.YtfedeljadckjiaaDoor
