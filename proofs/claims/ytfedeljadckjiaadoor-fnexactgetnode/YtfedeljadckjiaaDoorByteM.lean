/-
  The laws' own functions that write marks into a row of bytes, and look for them; the model's and the program's PutNum.
-/
import Derived.Test.YtfedeljadckjiaaDoorByteT
namespace Go.Proofs.YtfedeljadckjiaaDoor
open Go.RowKit

theorem owns_shape {w : World} {base e size n : Nat} {v : Value} {xs : List Value} (h : w.ownsRow base e size v n xs) : ∃ (a : Option Addr) (cap : Nat), v = .slice a n cap ∧ n ≤ cap ∧ cap ≤ maxLen := by
  obtain ⟨_, ⟨e, hn⟩ | ⟨g, cap', cur, e, _, _, hn, hc, _⟩⟩ := h
  · exact ⟨none, 0, by rw [e, hn], by omega, Nat.zero_le _⟩
  · exact ⟨_, _, e, hn, hc⟩

def markB (k : Int) (i : Nat) : Int := IntKind.u8.wrap (k + i)
def marksB (k : Int) (n : Nat) : List Int := (List.range n).map (markB k)
theorem marksB_length (k : Int) (n : Nat) : (marksB k n).length = n := by simp [marksB]
theorem marksB_succ (k : Int) (n : Nat) : marksB k (n + 1) = marksB k n ++ [markB k n] := by simp [marksB, List.range_succ]
theorem marksB_at (k : Int) (n i : Nat) (h : i < n) : byOf (marksB k n) i = markB k i := by simp [marksB, byOf, List.getD, h]
def midB (k : Int) (l : List Int) (i : Nat) : List Int := marksB k i ++ l.drop i
theorem midB_length (k : Int) (l : List Int) (i : Nat) (h : i ≤ l.length) : (midB k l i).length = l.length := by simp [midB, marksB_length]; omega
theorem midB_zero (k : Int) (l : List Int) : midB k l 0 = l := by simp [midB, marksB]
theorem midB_full (k : Int) (l : List Int) : midB k l l.length = marksB k l.length := by simp [midB]
theorem midB_step (k : Int) (l : List Int) (i : Nat) (h : i < l.length) : (flatB (midB k l i)).set i (.int .u8 (markB k i)) = flatB (midB k l (i + 1)) := by
  rw [flatB, ← List.map_set, midB, midB, marksB_succ, List.drop_eq_getElem_cons h, List.set_append_right _ _ (by rw [marksB_length]; omega), marksB_length, Nat.sub_self, List.set_cons_zero]
  simp [flatB]

set_option maxHeartbeats 1000000 in
theorem markByteS_any (v : Value) (l : List Int) (k : Int) (w : World) (h : w.ownsRow 0 5 1 v l.length (flatB l)) (hn : l.length ≤ 16777216) (hk0 : 0 ≤ k) (hk1 : k ≤ 16777216) :
    Calls Tryd.prog 34 #[v, .int .i64 k] w fun e w' => e = .returned (.int .i64 (k + l.length)) ∧ w'.ownsRow 0 5 1 v l.length (flatB (marksB k l.length)) ∧ Chg (fun g => v.ownBlock = some g) w w' := by
  obtain ⟨a, cap, hv, _, hcap⟩ := owns_shape h
  unfold maxLen at hcap
  have OW : Hid (w.ownsRow 0 5 1 v l.length (flatB l)) := h
  clear h
  rw [hv] at OW ⊢
  clear hv
  go_enter Tryd.func34, Tryd.ntmps34
  go_wp2
  go_loopw [1, 5] (fun kk i wr => ∃ j : Nat, j ≤ l.length ∧ i = .int .i64 j ∧ kk = .int .i64 (k + j) ∧ wr.ownsRow 0 5 1 (.slice a l.length cap) l.length (flatB (midB k l j)) ∧ Chg (fun g => (Value.slice a l.length cap).ownBlock = some g) w wr)
    (fun _ i _ => l.length - (intOf i).toNat)
  case atStart => exact ⟨0, Nat.zero_le _, rfl, by simp, by rw [midB_zero]; exact OW.out, Chg.refl _ _⟩
  case round =>
    obtain ⟨j, hj, rfl, rfl, hown, hch⟩ := hrel
    by_cases hlt : j < l.length
    · have hex : ∃ g, a = some ⟨g, 0, none⟩ := by
        obtain ⟨_, ⟨e, e2⟩ | ⟨g, cap', cur, e, _⟩⟩ := hown
        · omega
        · simp at e; exact ⟨g, e.1⟩
      obtain ⟨g, rfl⟩ := hex
      have hml : (midB k l j).length = l.length := midB_length k l j hj
      have hat := flatB_at (midB k l j) j (by omega)
      have e0 := (hown.cellAt j (by omega)).trans hat
      have f0 := hown.frozenAt j
      have st := (hown.stored j (.int .u8 (markB k j))).1
      rw [midB_step k l j hlt] at st
      have hch2 : Chg (fun g' => (Value.slice (some ⟨g, 0, none⟩) l.length cap).ownBlock = some g') w (wr.setCell ⟨g, j, none⟩ (.int .u8 (markB k j))) := hch.setAt g _ rfl _
      generalize byOf (midB k l j) j = x0 at *
      have ST : Hid _ := And.intro st hch2
      clear st hch2 hown hch hml hat OW
      have hb0 : 0 ≤ k + (j : Int) := by omega
      have hb1 : k + (j : Int) ≤ 100000000 := by omega
      go_wp2
      go_roundw
      case rel => exact ⟨j + 1, by omega, by go_num, by go_num, ST.out.1, ST.out.2⟩
      case measure => simp [intOf]; omega
    · have hjl : j = l.length := by omega
      subst hjl
      go_wp2
      go_ret
      rw [midB_full] at hown
      exact ⟨rfl, hown, hch⟩

set_option maxHeartbeats 1000000 in
theorem heldByteS_any (v : Value) (n : Nat) (k : Int) (w : World) (h : Row w v n (flatB (marksB k n))) (hn : n ≤ 16777216) (hk0 : 0 ≤ k) (hk1 : k ≤ 16777216) :
    Calls Tryd.prog 35 #[v, .int .i64 k] w fun e w' => e = .returned (.int .i64 (k + n)) ∧ w' = w := by
  have h' : Row w v (marksB k n).length (flatB (marksB k n)) := by rw [marksB_length]; exact h
  obtain ⟨a, b, off, cap, rfl, hcap, hmax, ha, hk⟩ := h'.bytes
  rw [marksB_length] at *
  unfold maxLen at hmax
  clear h h'
  go_enter Tryd.func35, Tryd.ntmps35
  go_wp2
  go_loop [1, 5] (fun kk i => ∃ j : Nat, j ≤ n ∧ i = .int .i64 j ∧ kk = .int .i64 (k + j)) (fun _ i => n - (intOf i).toNat)
  case atStart => exact ⟨0, Nat.zero_le _, rfl, by simp⟩
  case round =>
    obtain ⟨j, hj, rfl, rfl⟩ := hrel
    by_cases hlt : j < n
    · have hal := ha (by omega)
      subst hal
      have d0 : w.cell? ⟨b, off + j, none⟩ = some (.int .u8 (IntKind.u8.wrap (k + j))) := by rw [hk j hlt, marksB_at k n j hlt]; rfl
      clear hk
      have hb0 : 0 ≤ k + (j : Int) := by omega
      have hb1 : k + (j : Int) ≤ 100000000 := by omega
      go_wp2
      go_round
      case rel => exact ⟨j + 1, by omega, by go_num, by go_num⟩
      case measure => simp [intOf]; omega
    · have hjl : j = n := by omega
      subst hjl
      go_wp2
      go_ret
      exact ⟨rfl, rfl⟩

end Go.Proofs.YtfedeljadckjiaaDoor
