/-
  The laws' own functions that write marks into a list of entries, and look for them.
-/
import Derived.Test.YteegcblndbljlaaEnts
import Derived.Test.YteegcblndbljlaaMarks
namespace Go.Proofs.Yteegcblndbljlaa
open Go.RowKit

def marksE (k : Int) (n : Nat) : EL := (List.range n).map fun (i : Nat) => (k + 6 * i, k + 6 * i + 1, k + 6 * i + 1 + 1, k + 6 * i + 1 + 1 + 1, k + 6 * i + 1 + 1 + 1 + 1, k + 6 * i + 1 + 1 + 1 + 1 + 1)
theorem marksE_length (k : Int) (n : Nat) : (marksE k n).length = n := by simp [marksE]
theorem marksE_succ (k : Int) (n : Nat) : marksE k (n + 1) = marksE k n ++ [(k + 6 * n, k + 6 * n + 1, k + 6 * n + 1 + 1, k + 6 * n + 1 + 1 + 1, k + 6 * n + 1 + 1 + 1 + 1, k + 6 * n + 1 + 1 + 1 + 1 + 1)] := by simp [marksE, List.range_succ]
theorem marksE_at (k : Int) (n i : Nat) (h : i < n) : eT (marksE k n) i = k + 6 * i ∧ eC (marksE k n) i = k + 6 * i + 1 ∧ eS (marksE k n) i = k + 6 * i + 1 + 1 ∧ eO (marksE k n) i = k + 6 * i + 1 + 1 + 1 ∧ eK (marksE k n) i = k + 6 * i + 1 + 1 + 1 + 1 ∧ eV (marksE k n) i = k + 6 * i + 1 + 1 + 1 + 1 + 1 := by
  simp [marksE, eT, eC, eS, eO, eK, eV, List.getD, h]
def midE (k : Int) (l : EL) (i : Nat) : EL := marksE k i ++ l.drop i
theorem midE_length (k : Int) (l : EL) (i : Nat) (h : i ≤ l.length) : (midE k l i).length = l.length := by simp [midE, marksE_length]; omega
theorem midE_zero (k : Int) (l : EL) : midE k l 0 = l := by simp [midE, marksE]
theorem midE_full (k : Int) (l : EL) : midE k l l.length = marksE k l.length := by simp [midE]
theorem midE_step (k : Int) (l : EL) (i : Nat) (h : i < l.length) : (midE k l i).set i (k + 6 * i, k + 6 * i + 1, k + 6 * i + 1 + 1, k + 6 * i + 1 + 1 + 1, k + 6 * i + 1 + 1 + 1 + 1, k + 6 * i + 1 + 1 + 1 + 1 + 1) = midE k l (i + 1) := by
  rw [midE, midE, marksE_succ, List.drop_eq_getElem_cons h, List.set_append_right _ _ (by rw [marksE_length]; omega), marksE_length, Nat.sub_self, List.set_cons_zero]
  simp

theorem owns_capE {w : World} {base e size n cap : Nat} {a : Option Addr} {xs : List Value} (h : w.ownsRow base e size (.slice a n cap) n xs) : cap ≤ maxLen := by
  obtain ⟨_, ⟨e, _⟩ | ⟨g, cap', cur, e, _, _, _, hc, _⟩⟩ := h
  · simp at e; rw [e.2.2]; exact Nat.zero_le _
  · simp at e; rw [e.2]; exact hc

set_option maxRecDepth 100000 in
set_option maxHeartbeats 2000000 in
theorem markEntryS_any (v : Value) (l : EL) (k : Int) (w : World) (h : w.ownsRow 0 39 6 v l.length (flatE l)) (hn : l.length ≤ 4194304) (hk0 : 0 ≤ k) (hk1 : k ≤ 41943040) :
    Calls Try.prog 39 #[v, .int .i64 k] w fun e w' => e = .returned (.int .i64 (k + 6 * l.length)) ∧ w'.ownsRow 0 39 6 v l.length (flatE (marksE k l.length)) ∧ Chg (fun g => v.ownBlock = some g) w w' := by
  obtain ⟨a, cap, hv⟩ := owns_val h
  have OW : Hid (w.ownsRow 0 39 6 v l.length (flatE l)) := h
  clear h
  rw [hv] at OW ⊢
  clear hv
  have hcap := owns_capE OW.out
  unfold maxLen at hcap
  go_enter Try.func39, Try.ntmps39
  go_wp2
  go_loopw [1, 5] (fun kk i wr => ∃ j : Nat, j ≤ l.length ∧ i = .int .i64 j ∧ kk = .int .i64 (k + 6 * j) ∧ wr.ownsRow 0 39 6 (.slice a l.length cap) l.length (flatE (midE k l j)) ∧ Chg (fun g => (Value.slice a l.length cap).ownBlock = some g) w wr)
    (fun _ i _ => l.length - (intOf i).toNat)
  case atStart => exact ⟨0, Nat.zero_le _, rfl, by simp, by rw [midE_zero]; exact OW.out, Chg.refl _ _⟩
  case round =>
    obtain ⟨j, hj, rfl, rfl, hown, hch⟩ := hrel
    by_cases hlt : j < l.length
    · have hex : ∃ g, a = some ⟨g, 0, none⟩ := by
        obtain ⟨_, ⟨e, e2⟩ | ⟨g, cap', cur, e, _⟩⟩ := hown
        · omega
        · simp at e; exact ⟨g, e.1⟩
      obtain ⟨g, rfl⟩ := hex
      have hml : (midE k l j).length = l.length := midE_length k l j hj
      have hat := flatE_at (midE k l j) j (by omega)
      have e0 := (hown.cellAt (j * 6) (by omega)).trans hat.1
      have f0 := hown.frozenAt (j * 6)
      have e1 := (hown.cellAt (j * 6 + 1) (by omega)).trans hat.2.1
      have f1 := hown.frozenAt (j * 6 + 1)
      have e2 := (hown.cellAt (j * 6 + 2) (by omega)).trans hat.2.2.1
      have f2 := hown.frozenAt (j * 6 + 2)
      have e3 := (hown.cellAt (j * 6 + 3) (by omega)).trans hat.2.2.2.1
      have f3 := hown.frozenAt (j * 6 + 3)
      have e4 := (hown.cellAt (j * 6 + 4) (by omega)).trans hat.2.2.2.2.1
      have f4 := hown.frozenAt (j * 6 + 4)
      have e5 := (hown.cellAt (j * 6 + 5) (by omega)).trans hat.2.2.2.2.2
      have f5 := hown.frozenAt (j * 6 + 5)
      have st0 := (hown.stored (j * 6) (.int .i64 (k + 6 * j))).1
      have st1 := (st0.stored (j * 6 + 1) (.int .i64 (k + 6 * j + 1))).1
      have st2 := (st1.stored (j * 6 + 2) (.int .i64 (k + 6 * j + 1 + 1))).1
      have st3 := (st2.stored (j * 6 + 3) (.int .i64 (k + 6 * j + 1 + 1 + 1))).1
      have st4 := (st3.stored (j * 6 + 4) (.int .i64 (k + 6 * j + 1 + 1 + 1 + 1))).1
      have st5 := (st4.stored (j * 6 + 5) (.int .i64 (k + 6 * j + 1 + 1 + 1 + 1 + 1))).1
      rw [flatE_set _ _ _ _ _ _ _ j (by omega), midE_step k l j hlt] at st5
      have hch2 : Chg (fun g' => (Value.slice (some ⟨g, 0, none⟩) l.length cap).ownBlock = some g') w ((((((wr.setCell ⟨g, j * 6, none⟩ (.int .i64 (k + 6 * j))).setCell ⟨g, j * 6 + 1, none⟩ (.int .i64 (k + 6 * j + 1))).setCell ⟨g, j * 6 + 2, none⟩ (.int .i64 (k + 6 * j + 1 + 1))).setCell ⟨g, j * 6 + 3, none⟩ (.int .i64 (k + 6 * j + 1 + 1 + 1))).setCell ⟨g, j * 6 + 4, none⟩ (.int .i64 (k + 6 * j + 1 + 1 + 1 + 1))).setCell ⟨g, j * 6 + 5, none⟩ (.int .i64 (k + 6 * j + 1 + 1 + 1 + 1 + 1))) := ((((((hch.setAt g _ rfl _).setAt g _ rfl _).setAt g _ rfl _).setAt g _ rfl _).setAt g _ rfl _).setAt g _ rfl _)
      generalize eT (midE k l j) j = x0 at *
      generalize eC (midE k l j) j = x1 at *
      generalize eS (midE k l j) j = x2 at *
      generalize eO (midE k l j) j = x3 at *
      generalize eK (midE k l j) j = x4 at *
      generalize eV (midE k l j) j = x5 at *
      have ST : Hid _ := And.intro st5 hch2
      clear st0 st1 st2 st3 st4 st5 hch2 hown hch hml hat OW
      have hb0 : 0 ≤ k + 6 * (j : Int) := by omega
      have hb1 : k + 6 * (j : Int) ≤ 100000000 := by omega
      go_wp2
      go_roundw
      case rel => exact ⟨j + 1, by omega, by go_num, by go_num, ST.out.1, ST.out.2⟩
      case measure => simp [intOf]; omega
    · have hjl : j = l.length := by omega
      subst hjl
      go_wp2
      go_ret
      rw [midE_full] at hown
      exact ⟨rfl, hown, hch⟩

set_option maxRecDepth 100000 in
set_option maxHeartbeats 2000000 in
theorem heldEntryS_any (v : Value) (n : Nat) (k : Int) (w : World) (h : Row w v n (flatE (marksE k n))) (hn : n ≤ 4194304) (hk0 : 0 ≤ k) (hk1 : k ≤ 41943040) :
    Calls Try.prog 40 #[v, .int .i64 k] w fun e w' => e = .returned (.int .i64 (k + 6 * n)) ∧ w' = w := by
  have h' : Row w v (marksE k n).length (flatE (marksE k n)) := by rw [marksE_length]; exact h
  obtain ⟨a, b, off, cap, rfl, hcap, hmax, ha, h10, h11, h12, h13, h14, h15⟩ := h'.ents
  rw [marksE_length] at *
  unfold maxLen at hmax
  clear h h'
  go_enter Try.func40, Try.ntmps40
  go_wp2
  go_loop [1, 5] (fun kk i => ∃ j : Nat, j ≤ n ∧ i = .int .i64 j ∧ kk = .int .i64 (k + 6 * j)) (fun _ i => n - (intOf i).toNat)
  case atStart => exact ⟨0, Nat.zero_le _, rfl, by simp⟩
  case round =>
    obtain ⟨j, hj, rfl, rfl⟩ := hrel
    by_cases hlt : j < n
    · have hal := ha (by omega)
      subst hal
      have d0 : w.cell? ⟨b, off + j * 6, none⟩ = some (.int .i64 (k + 6 * j)) := by rw [h10 j hlt, (marksE_at k n j hlt).1]
      have d1 : w.cell? ⟨b, off + j * 6 + 1, none⟩ = some (.int .i64 (k + 6 * j + 1)) := by rw [h11 j hlt, (marksE_at k n j hlt).2.1]
      have d2 : w.cell? ⟨b, off + j * 6 + 2, none⟩ = some (.int .i64 (k + 6 * j + 1 + 1)) := by rw [h12 j hlt, (marksE_at k n j hlt).2.2.1]
      have d3 : w.cell? ⟨b, off + j * 6 + 3, none⟩ = some (.int .i64 (k + 6 * j + 1 + 1 + 1)) := by rw [h13 j hlt, (marksE_at k n j hlt).2.2.2.1]
      have d4 : w.cell? ⟨b, off + j * 6 + 4, none⟩ = some (.int .i64 (k + 6 * j + 1 + 1 + 1 + 1)) := by rw [h14 j hlt, (marksE_at k n j hlt).2.2.2.2.1]
      have d5 : w.cell? ⟨b, off + j * 6 + 5, none⟩ = some (.int .i64 (k + 6 * j + 1 + 1 + 1 + 1 + 1)) := by rw [h15 j hlt, (marksE_at k n j hlt).2.2.2.2.2]
      clear h10 h11 h12 h13 h14 h15
      have hb0 : 0 ≤ k + 6 * (j : Int) := by omega
      have hb1 : k + 6 * (j : Int) ≤ 100000000 := by omega
      go_wp2
      go_round
      case rel => exact ⟨j + 1, by omega, by go_num, by go_num⟩
      case measure => simp [intOf]; omega
    · have hjl : j = n := by omega
      subst hjl
      go_wp2
      go_ret
      exact ⟨rfl, rfl⟩

end Go.Proofs.Yteegcblndbljlaa
