/-
  The laws' own functions that write marks into a list of what was done last, and look for them.
  The laws' own functions that write marks into a list of truths, and look for them.
  The laws' own functions that write marks into a list of entries, and look for them.
  Marks in rows of their own, empty ones too: what was done last, truths, entries.
-/
import Derived.Test.YtdcladffnjikkaaOfWn2
import Derived.Test.YtdcladffnjikkaaOfWn1
import Derived.Test.YtdcladffnjikkaaOfWn3
import Derived.Test.YtdcladffnjikkaaOfWn7
namespace Go.Proofs.Ytdcladffnjikkaa
set_option maxRecDepth 100000
set_option maxHeartbeats 8000000
section
open Go.RowKit

abbrev mrk (k : Int) : Bool := k % 3 == 0
def marksD (k : Int) (n : Nat) : DL := (List.range n).map fun (i : Nat) => (k + 4 * i, k + 4 * i + 1, k + 4 * i + 1 + 1, mrk (k + 4 * i + 1 + 1 + 1))
theorem marksD_length (k : Int) (n : Nat) : (marksD k n).length = n := by simp [marksD]
theorem marksD_succ (k : Int) (n : Nat) : marksD k (n + 1) = marksD k n ++ [(k + 4 * n, k + 4 * n + 1, k + 4 * n + 1 + 1, mrk (k + 4 * n + 1 + 1 + 1))] := by simp [marksD, List.range_succ]
theorem marksD_at (k : Int) (n i : Nat) (h : i < n) : dC (marksD k n) i = k + 4 * i ∧ dS (marksD k n) i = k + 4 * i + 1 ∧ dV (marksD k n) i = k + 4 * i + 1 + 1 ∧ dH (marksD k n) i = mrk (k + 4 * i + 1 + 1 + 1) := by
 simp [marksD, dC, dS, dV, dH, List.getD, h]
def midD (k : Int) (l : DL) (i : Nat) : DL := marksD k i ++ l.drop i
theorem midD_length (k : Int) (l : DL) (i : Nat) (h : i ≤ l.length) : (midD k l i).length = l.length := by simp [midD, marksD_length]; omega
theorem midD_zero (k : Int) (l : DL) : midD k l 0 = l := by simp [midD, marksD]
theorem midD_full (k : Int) (l : DL) : midD k l l.length = marksD k l.length := by simp [midD]
theorem midD_step (k : Int) (l : DL) (i : Nat) (h : i < l.length) : (midD k l i).set i (k + 4 * i, k + 4 * i + 1, k + 4 * i + 1 + 1, mrk (k + 4 * i + 1 + 1 + 1)) = midD k l (i + 1) := by
 rw [midD, midD, marksD_succ, List.drop_eq_getElem_cons h, List.set_append_right _ _ (by rw [marksD_length]; omega), marksD_length, Nat.sub_self, List.set_cons_zero]
 simp
theorem owns_capD {w : World} {base e size n cap : Nat} {a : Option Addr} {xs : List Value} (h : w.ownsRow base e size (.slice a n cap) n xs) : cap ≤ maxLen := by
 obtain ⟨_, ⟨e, _⟩ | ⟨g, cap', cur, e, _, _, _, hc, _⟩⟩ := h
 ·simp at e; rw [e.2.2]; exact Nat.zero_le _
 ·simp at e; rw [e.2]; exact hc

theorem markDoneS_any (v : Value) (l : DL) (k : Int) (w : World) (h : w.ownsRow 0 78 4 v l.length (flatD l)) (hn : l.length ≤ 67108864) (hk0 : 0 ≤ k) (hk1 : k ≤ 671088640) :
  Calls Try.prog 21 #[v, .int .i64 k] w fun e w' => e = .returned (.int .i64 (k + 4 * l.length)) ∧ w'.ownsRow 0 78 4 v l.length (flatD (marksD k l.length)) ∧ Chg (fun g => v.ownBlock = some g) w w' := by
 obtain ⟨a, cap, hv⟩ := owns_val h
 have OW : Hid (w.ownsRow 0 78 4 v l.length (flatD l)) := h
 clear h
 rw [hv] at OW ⊢
 clear hv
 have hcap := owns_capD OW.out
 unfold maxLen at hcap
 go_enter Try.func21, Try.ntmps21
 go_wp2
 go_loopw [1, 5] (fun kk i wr => ∃ j : Nat, j ≤ l.length ∧ i = .int .i64 j ∧ kk = .int .i64 (k + 4 * j) ∧ wr.ownsRow 0 78 4 (.slice a l.length cap) l.length (flatD (midD k l j)) ∧ Chg (fun g => (Value.slice a l.length cap).ownBlock = some g) w wr)
  (fun _ i _ => l.length - (intOf i).toNat)
 case atStart => exact ⟨0, Nat.zero_le _, rfl, by simp, by rw [midD_zero]; exact OW.out, Chg.refl _ _⟩
 case round =>
  obtain ⟨j, hj, rfl, rfl, hown, hch⟩ := hrel
  by_cases hlt : j < l.length
  ·have hex : ∃ g, a = some ⟨g, 0, none⟩ := by
    obtain ⟨_, ⟨e, e2⟩ | ⟨g, cap', cur, e, _⟩⟩ := hown
    ·omega
    ·simp at e; exact ⟨g, e.1⟩
   obtain ⟨g, rfl⟩ := hex
   have hml : (midD k l j).length = l.length := midD_length k l j hj
   have hat := flatD_at (midD k l j) j (by omega)
   have e0 := (hown.cellAt (j * 4) (by omega)).trans hat.1
   have f0 := hown.frozenAt (j * 4)
   have e1 := (hown.cellAt (j * 4 + 1) (by omega)).trans hat.2.1
   have f1 := hown.frozenAt (j * 4 + 1)
   have e2 := (hown.cellAt (j * 4 + 2) (by omega)).trans hat.2.2.1
   have f2 := hown.frozenAt (j * 4 + 2)
   have e3 := (hown.cellAt (j * 4 + 3) (by omega)).trans hat.2.2.2
   have f3 := hown.frozenAt (j * 4 + 3)
   have st0 := (hown.stored (j * 4) (.int .i64 (k + 4 * j))).1
   have st1 := (st0.stored (j * 4 + 1) (.int .i64 (k + 4 * j + 1))).1
   have st2 := (st1.stored (j * 4 + 2) (.int .i64 (k + 4 * j + 1 + 1))).1
   have st3 := (st2.stored (j * 4 + 3) (.bool (mrk (k + 4 * j + 1 + 1 + 1)))).1
   rw [flatD_set _ _ _ _ _ j (by omega), midD_step k l j hlt] at st3
   have hch2 : Chg (fun g' => (Value.slice (some ⟨g, 0, none⟩) l.length cap).ownBlock = some g') w ((((wr.setCell ⟨g, j * 4, none⟩ (.int .i64 (k + 4 * j))).setCell ⟨g, j * 4 + 1, none⟩ (.int .i64 (k + 4 * j + 1))).setCell ⟨g, j * 4 + 2, none⟩ (.int .i64 (k + 4 * j + 1 + 1))).setCell ⟨g, j * 4 + 3, none⟩ (.bool (mrk (k + 4 * j + 1 + 1 + 1)))) := (((hch.setAt g (j * 4) rfl _).setAt g (j * 4 + 1) rfl _).setAt g (j * 4 + 2) rfl _).setAt g (j * 4 + 3) rfl _
   generalize dC (midD k l j) j = x0 at *
   generalize dS (midD k l j) j = x1 at *
   generalize dV (midD k l j) j = x2 at *
   generalize dH (midD k l j) j = x3 at *
   have ST : Hid _ := And.intro st3 hch2
   clear st0 st1 st2 st3 hch2 hown hch hml hat OW
   have hb0 : 0 ≤ k + 4 * (j : Int) := by omega
   have hb1 : k + 4 * (j : Int) ≤ 10000000000 := by omega
   go_wp2
   go_roundw
   case rel => exact ⟨j + 1, by omega, by go_num, by go_num, ST.out.1, ST.out.2⟩
   case measure => simp [intOf]; omega
  ·have hjl : j = l.length := by omega
   subst hjl
   go_wp2
   go_ret
   rw [midD_full] at hown
   exact ⟨rfl, hown, hch⟩

theorem heldDoneS_any (v : Value) (n : Nat) (k : Int) (w : World) (h : Row w v n (flatD (marksD k n))) (hn : n ≤ 67108864) (hk0 : 0 ≤ k) (hk1 : k ≤ 671088640) :
  Calls Try.prog 26 #[v, .int .i64 k] w fun e w' => e = .returned (.int .i64 (k + 4 * n)) ∧ w' = w := by
 have h' : Row w v (marksD k n).length (flatD (marksD k n)) := by rw [marksD_length]; exact h
 obtain ⟨a, b, off, cap, rfl, hcap, hmax, ha, h10, h11, h12, h13⟩ := h'.dones
 rw [marksD_length] at *
 unfold maxLen at hmax
 clear h h'
 go_enter Try.func26, Try.ntmps26
 go_wp2
 go_loop [1, 5] (fun kk i => ∃ j : Nat, j ≤ n ∧ i = .int .i64 j ∧ kk = .int .i64 (k + 4 * j)) (fun _ i => n - (intOf i).toNat)
 case atStart => exact ⟨0, Nat.zero_le _, rfl, by simp⟩
 case round =>
  obtain ⟨j, hj, rfl, rfl⟩ := hrel
  by_cases hlt : j < n
  ·have hal := ha (by omega)
   subst hal
   have d0 : w.cell? ⟨b, off + j * 4, none⟩ = some (.int .i64 (k + 4 * j)) := by rw [h10 j hlt, (marksD_at k n j hlt).1]
   have d1 : w.cell? ⟨b, off + j * 4 + 1, none⟩ = some (.int .i64 (k + 4 * j + 1)) := by rw [h11 j hlt, (marksD_at k n j hlt).2.1]
   have d2 : w.cell? ⟨b, off + j * 4 + 2, none⟩ = some (.int .i64 (k + 4 * j + 1 + 1)) := by rw [h12 j hlt, (marksD_at k n j hlt).2.2.1]
   have d3 : w.cell? ⟨b, off + j * 4 + 3, none⟩ = some (.bool (mrk (k + 4 * j + 1 + 1 + 1))) := by rw [h13 j hlt, (marksD_at k n j hlt).2.2.2]
   clear h10 h11 h12 h13
   have hb0 : 0 ≤ k + 4 * (j : Int) := by omega
   have hb1 : k + 4 * (j : Int) ≤ 10000000000 := by omega
   by_cases hm : (k + 4 * (j : Int) + 1 + 1 + 1) % 3 = 0
   ·have hm2 : mrk (k + 4 * (j : Int) + 1 + 1 + 1) = true := by simp [mrk, hm]
    rw [hm2] at d3
    have hm3 : ((k + 4 * (j : Int) + 1 + 1 + 1) % 3 == 0) = true := hm2
    go_wp2
    go_round
    case rel => exact ⟨j + 1, by omega, by go_num, by go_num⟩
    case measure => simp [intOf]; omega
   ·have hm2 : mrk (k + 4 * (j : Int) + 1 + 1 + 1) = false := by simp [mrk, hm]
    rw [hm2] at d3
    have hm3 : ((k + 4 * (j : Int) + 1 + 1 + 1) % 3 == 0) = false := hm2
    go_wp2
    go_round
    case rel => exact ⟨j + 1, by omega, by go_num, by go_num⟩
    case measure => simp [intOf]; omega
  ·have hjl : j = n := by omega
   subst hjl
   go_wp2
   go_ret
   exact ⟨rfl, rfl⟩
end
section
open Go.RowKit

def marksL (k : Int) (n : Nat) : List Bool := (List.range n).map fun (i : Nat) => mrk (k + i)
theorem marksL_length (k : Int) (n : Nat) : (marksL k n).length = n := by simp [marksL]
theorem marksL_succ (k : Int) (n : Nat) : marksL k (n + 1) = marksL k n ++ [mrk (k + n)] := by simp [marksL, List.range_succ]
theorem marksL_at (k : Int) (n i : Nat) (h : i < n) : bOf (marksL k n) i = mrk (k + i) := by simp [marksL, bOf, List.getD, h]
def midL (k : Int) (l : List Bool) (i : Nat) : List Bool := marksL k i ++ l.drop i
theorem midL_length (k : Int) (l : List Bool) (i : Nat) (h : i ≤ l.length) : (midL k l i).length = l.length := by simp [midL, marksL_length]; omega
theorem midL_zero (k : Int) (l : List Bool) : midL k l 0 = l := by simp [midL, marksL]
theorem midL_full (k : Int) (l : List Bool) : midL k l l.length = marksL k l.length := by simp [midL]
theorem midL_step (k : Int) (l : List Bool) (i : Nat) (h : i < l.length) : (midL k l i).set i (mrk (k + i)) = midL k l (i + 1) := by
 rw [midL, midL, marksL_succ, List.drop_eq_getElem_cons h, List.set_append_right _ _ (by rw [marksL_length]; omega), marksL_length, Nat.sub_self, List.set_cons_zero]
 simp

theorem markBoolS_m (v : Value) (l : List Bool) (k : Int) (w : World) (h : w.ownsRow 0 4 1 v l.length (flatL l)) (hn : l.length ≤ 67108864) (hk0 : 0 ≤ k) (hk1 : k ≤ 671088640) :
  Calls Try.prog 44 #[v, .int .i64 k] w fun e w' => e = .returned (.int .i64 (k + l.length)) ∧ w'.ownsRow 0 4 1 v l.length (flatL (marksL k l.length)) ∧ Chg (fun g => v.ownBlock = some g) w w' := by
 obtain ⟨a, cap, hv⟩ := owns_val h
 have OW : Hid (w.ownsRow 0 4 1 v l.length (flatL l)) := h
 clear h
 rw [hv] at OW ⊢
 clear hv
 have hcap := owns_capD OW.out
 unfold maxLen at hcap
 go_enter Try.func44, Try.ntmps44
 go_wp2
 go_loopw [1, 5] (fun kk i wr => ∃ j : Nat, j ≤ l.length ∧ i = .int .i64 j ∧ kk = .int .i64 (k + j) ∧ wr.ownsRow 0 4 1 (.slice a l.length cap) l.length (flatL (midL k l j)) ∧ Chg (fun g => (Value.slice a l.length cap).ownBlock = some g) w wr)
  (fun _ i _ => l.length - (intOf i).toNat)
 case atStart => exact ⟨0, Nat.zero_le _, rfl, by simp, by rw [midL_zero]; exact OW.out, Chg.refl _ _⟩
 case round =>
  obtain ⟨j, hj, rfl, rfl, hown, hch⟩ := hrel
  by_cases hlt : j < l.length
  ·have hex : ∃ g, a = some ⟨g, 0, none⟩ := by
    obtain ⟨_, ⟨e, e2⟩ | ⟨g, cap', cur, e, _⟩⟩ := hown
    ·omega
    ·simp at e; exact ⟨g, e.1⟩
   obtain ⟨g, rfl⟩ := hex
   have hml : (midL k l j).length = l.length := midL_length k l j hj
   have hat := flatL_at (midL k l j) j (by omega)
   have e0 := (hown.cellAt j (by omega)).trans hat
   have f0 := hown.frozenAt j
   have st0 := (hown.stored j (.bool (mrk (k + j)))).1
   rw [flatL_set, midL_step k l j hlt] at st0
   have hch2 : Chg (fun g' => (Value.slice (some ⟨g, 0, none⟩) l.length cap).ownBlock = some g') w (wr.setCell ⟨g, j, none⟩ (.bool (mrk (k + j)))) := hch.setAt g j rfl _
   generalize bOf (midL k l j) j = x0 at *
   have ST : Hid _ := And.intro st0 hch2
   clear st0 hch2 hown hch hml hat OW
   have hb0 : 0 ≤ k + (j : Int) := by omega
   have hb1 : k + (j : Int) ≤ 10000000000 := by omega
   go_wp2
   go_roundw
   case rel => exact ⟨j + 1, by omega, by go_num, by go_num, ST.out.1, ST.out.2⟩
   case measure => simp [intOf]; omega
  ·have hjl : j = l.length := by omega
   subst hjl
   go_wp2
   go_ret
   rw [midL_full] at hown
   exact ⟨rfl, hown, hch⟩

theorem heldBoolS_any (v : Value) (n : Nat) (k : Int) (w : World) (h : Row w v n (flatL (marksL k n))) (hn : n ≤ 67108864) (hk0 : 0 ≤ k) (hk1 : k ≤ 671088640) :
  Calls Try.prog 50 #[v, .int .i64 k] w fun e w' => e = .returned (.int .i64 (k + n)) ∧ w' = w := by
 have h' : Row w v (marksL k n).length (flatL (marksL k n)) := by rw [marksL_length]; exact h
 obtain ⟨a, b, off, cap, rfl, hcap, hmax, ha, h10⟩ := h'.bools
 rw [marksL_length] at *
 unfold maxLen at hmax
 clear h h'
 go_enter Try.func50, Try.ntmps50
 go_wp2
 go_loop [1, 5] (fun kk i => ∃ j : Nat, j ≤ n ∧ i = .int .i64 j ∧ kk = .int .i64 (k + j)) (fun _ i => n - (intOf i).toNat)
 case atStart => exact ⟨0, Nat.zero_le _, rfl, by simp⟩
 case round =>
  obtain ⟨j, hj, rfl, rfl⟩ := hrel
  by_cases hlt : j < n
  ·have hal := ha (by omega)
   subst hal
   have d0 : w.cell? ⟨b, off + j, none⟩ = some (.bool (mrk (k + j))) := by rw [h10 j hlt, marksL_at k n j hlt]
   clear h10
   have hb0 : 0 ≤ k + (j : Int) := by omega
   have hb1 : k + (j : Int) ≤ 10000000000 := by omega
   by_cases hm : (k + (j : Int)) % 3 = 0
   ·have hm2 : mrk (k + (j : Int)) = true := by simp [mrk, hm]
    rw [hm2] at d0
    have hm3 : ((k + (j : Int)) % 3 == 0) = true := hm2
    go_wp2
    go_round
    case rel => exact ⟨j + 1, by omega, by go_num, by go_num⟩
    case measure => simp [intOf]; omega
   ·have hm2 : mrk (k + (j : Int)) = false := by simp [mrk, hm]
    rw [hm2] at d0
    have hm3 : ((k + (j : Int)) % 3 == 0) = false := hm2
    go_wp2
    go_round
    case rel => exact ⟨j + 1, by omega, by go_num, by go_num⟩
    case measure => simp [intOf]; omega
  ·have hjl : j = n := by omega
   subst hjl
   go_wp2
   go_ret
   exact ⟨rfl, rfl⟩
end
section
open Go.RowKit

def marksE (k : Int) (n : Nat) : EL := (List.range n).map fun (i : Nat) => (k + 6 * i, k + 6 * i + 1, k + 6 * i + 1 + 1, k + 6 * i + 1 + 1 + 1, k + 6 * i + 1 + 1 + 1 + 1, k + 6 * i + 1 + 1 + 1 + 1 + 1)
theorem marksE_length (k : Int) (n : Nat) : (marksE k n).length = n := by simp [marksE]
theorem marksE_succ (k : Int) (n : Nat) : marksE k (n + 1) = marksE k n ++ [(k + 6 * n, k + 6 * n + 1, k + 6 * n + 1 + 1, k + 6 * n + 1 + 1 + 1, k + 6 * n + 1 + 1 + 1 + 1, k + 6 * n + 1 + 1 + 1 + 1 + 1)] := by simp [marksE, List.range_succ]
theorem marksE_at (k : Int) (n i : Nat) (h : i < n) : eT (marksE k n) i = k + 6 * i ∧ eC (marksE k n) i = k + 6 * i + 1 ∧ eS (marksE k n) i = k + 6 * i + 1 + 1 ∧ eO (marksE k n) i = k + 6 * i + 1 + 1 + 1 ∧ eK (marksE k n) i = k + 6 * i + 1 + 1 + 1 + 1 ∧ eV (marksE k n) i = k + 6 * i + 1 + 1 + 1 + 1 + 1 := by
 simp [marksE, eT, eC, eS, eO, eK, eV, List.getD, h]
def midE (k : Int) (l : EL) (i : Nat) : EL := marksE k i ++ l.drop i
theorem midE_length (k : Int) (l : EL) (i : Nat) (h : i ≤ l.length) : (midE k l i).length = l.length := by simp [midE, marksE_length]; omega
theorem midE_zero (k : Int) (l : EL) : midE k l 0 = l := by simp [midE, marksE]
theorem midE_full (k : Int) (l : EL) : midE k l l.length = marksE k l.length := by simp [midE]
theorem midE_step (k : Int) (l : EL) (i : Nat) (h : i < l.length) : (midE k l i).set i (k + 6 * i, k + 6 * i + 1, k + 6 * i + 1 + 1, k + 6 * i + 1 + 1 + 1, k + 6 * i + 1 + 1 + 1 + 1, k + 6 * i + 1 + 1 + 1 + 1 + 1) = midE k l (i + 1) := by
 rw [midE, midE, marksE_succ, List.drop_eq_getElem_cons h, List.set_append_right _ _ (by rw [marksE_length]; omega), marksE_length, Nat.sub_self, List.set_cons_zero]
 simp

theorem owns_capE {w : World} {base e size n cap : Nat} {a : Option Addr} {xs : List Value} (h : w.ownsRow base e size (.slice a n cap) n xs) : cap ≤ maxLen := by
 obtain ⟨_, ⟨e, _⟩ | ⟨g, cap', cur, e, _, _, _, hc, _⟩⟩ := h
 ·simp at e; rw [e.2.2]; exact Nat.zero_le _
 ·simp at e; rw [e.2]; exact hc

theorem markEntryS_any (v : Value) (l : EL) (k : Int) (w : World) (h : w.ownsRow 0 101 6 v l.length (flatE l)) (hn : l.length ≤ 67108864) (hk0 : 0 ≤ k) (hk1 : k ≤ 671088640) :
  Calls Try.prog 39 #[v, .int .i64 k] w fun e w' => e = .returned (.int .i64 (k + 6 * l.length)) ∧ w'.ownsRow 0 101 6 v l.length (flatE (marksE k l.length)) ∧ Chg (fun g => v.ownBlock = some g) w w' := by
 obtain ⟨a, cap, hv⟩ := owns_val h
 have OW : Hid (w.ownsRow 0 101 6 v l.length (flatE l)) := h
 clear h
 rw [hv] at OW ⊢
 clear hv
 have hcap := owns_capE OW.out
 unfold maxLen at hcap
 go_enter Try.func39, Try.ntmps39
 go_wp2
 go_loopw [1, 5] (fun kk i wr => ∃ j : Nat, j ≤ l.length ∧ i = .int .i64 j ∧ kk = .int .i64 (k + 6 * j) ∧ wr.ownsRow 0 101 6 (.slice a l.length cap) l.length (flatE (midE k l j)) ∧ Chg (fun g => (Value.slice a l.length cap).ownBlock = some g) w wr)
  (fun _ i _ => l.length - (intOf i).toNat)
 case atStart => exact ⟨0, Nat.zero_le _, rfl, by simp, by rw [midE_zero]; exact OW.out, Chg.refl _ _⟩
 case round =>
  obtain ⟨j, hj, rfl, rfl, hown, hch⟩ := hrel
  by_cases hlt : j < l.length
  ·have hex : ∃ g, a = some ⟨g, 0, none⟩ := by
    obtain ⟨_, ⟨e, e2⟩ | ⟨g, cap', cur, e, _⟩⟩ := hown
    ·omega
    ·simp at e; exact ⟨g, e.1⟩
   obtain ⟨g, rfl⟩ := hex
   have hml : (midE k l j).length = l.length := midE_length k l j hj
   have hat := flatE_at (midE k l j) j (by omega)
   have e0 := (hown.cellAt (j * 6) (by omega)).trans hat.1
   have f0 := hown.frozenAt (j * 6)
   have e1 := (hown.cellAt (j * 6 + 1) (by omega)).trans hat.2.1
   have f1 := hown.frozenAt (j * 6 + 1)
   have e2 := (hown.cellAt (j * 6 + 2) (by omega)).trans hat.2.2.1
   have f2 := hown.frozenAt (j * 6 + 2)
   have e3 := (hown.cellAt (j * 6 + 3) (by omega)).trans hat.2.2.2.1
   have f3 := hown.frozenAt (j * 6 + 3)
   have e4 := (hown.cellAt (j * 6 + 4) (by omega)).trans hat.2.2.2.2.1
   have f4 := hown.frozenAt (j * 6 + 4)
   have e5 := (hown.cellAt (j * 6 + 5) (by omega)).trans hat.2.2.2.2.2
   have f5 := hown.frozenAt (j * 6 + 5)
   have st0 := (hown.stored (j * 6) (.int .i64 (k + 6 * j))).1
   have st1 := (st0.stored (j * 6 + 1) (.int .i64 (k + 6 * j + 1))).1
   have st2 := (st1.stored (j * 6 + 2) (.int .i64 (k + 6 * j + 1 + 1))).1
   have st3 := (st2.stored (j * 6 + 3) (.int .i64 (k + 6 * j + 1 + 1 + 1))).1
   have st4 := (st3.stored (j * 6 + 4) (.int .i64 (k + 6 * j + 1 + 1 + 1 + 1))).1
   have st5 := (st4.stored (j * 6 + 5) (.int .i64 (k + 6 * j + 1 + 1 + 1 + 1 + 1))).1
   rw [flatE_set _ _ _ _ _ _ _ j (by omega), midE_step k l j hlt] at st5
   have hch2 : Chg (fun g' => (Value.slice (some ⟨g, 0, none⟩) l.length cap).ownBlock = some g') w ((((((wr.setCell ⟨g, j * 6, none⟩ (.int .i64 (k + 6 * j))).setCell ⟨g, j * 6 + 1, none⟩ (.int .i64 (k + 6 * j + 1))).setCell ⟨g, j * 6 + 2, none⟩ (.int .i64 (k + 6 * j + 1 + 1))).setCell ⟨g, j * 6 + 3, none⟩ (.int .i64 (k + 6 * j + 1 + 1 + 1))).setCell ⟨g, j * 6 + 4, none⟩ (.int .i64 (k + 6 * j + 1 + 1 + 1 + 1))).setCell ⟨g, j * 6 + 5, none⟩ (.int .i64 (k + 6 * j + 1 + 1 + 1 + 1 + 1))) := ((((((hch.setAt g _ rfl _).setAt g _ rfl _).setAt g _ rfl _).setAt g _ rfl _).setAt g _ rfl _).setAt g _ rfl _)
   generalize eT (midE k l j) j = x0 at *
   generalize eC (midE k l j) j = x1 at *
   generalize eS (midE k l j) j = x2 at *
   generalize eO (midE k l j) j = x3 at *
   generalize eK (midE k l j) j = x4 at *
   generalize eV (midE k l j) j = x5 at *
   have ST : Hid _ := And.intro st5 hch2
   clear st0 st1 st2 st3 st4 st5 hch2 hown hch hml hat OW
   have hb0 : 0 ≤ k + 6 * (j : Int) := by omega
   have hb1 : k + 6 * (j : Int) ≤ 10000000000 := by omega
   go_wp2
   go_roundw
   case rel => exact ⟨j + 1, by omega, by go_num, by go_num, ST.out.1, ST.out.2⟩
   case measure => simp [intOf]; omega
  ·have hjl : j = l.length := by omega
   subst hjl
   go_wp2
   go_ret
   rw [midE_full] at hown
   exact ⟨rfl, hown, hch⟩

theorem heldEntryS_any (v : Value) (n : Nat) (k : Int) (w : World) (h : Row w v n (flatE (marksE k n))) (hn : n ≤ 67108864) (hk0 : 0 ≤ k) (hk1 : k ≤ 671088640) :
  Calls Try.prog 45 #[v, .int .i64 k] w fun e w' => e = .returned (.int .i64 (k + 6 * n)) ∧ w' = w := by
 have h' : Row w v (marksE k n).length (flatE (marksE k n)) := by rw [marksE_length]; exact h
 obtain ⟨a, b, off, cap, rfl, hcap, hmax, ha, h10, h11, h12, h13, h14, h15⟩ := h'.ents
 rw [marksE_length] at *
 unfold maxLen at hmax
 clear h h'
 go_enter Try.func45, Try.ntmps45
 go_wp2
 go_loop [1, 5] (fun kk i => ∃ j : Nat, j ≤ n ∧ i = .int .i64 j ∧ kk = .int .i64 (k + 6 * j)) (fun _ i => n - (intOf i).toNat)
 case atStart => exact ⟨0, Nat.zero_le _, rfl, by simp⟩
 case round =>
  obtain ⟨j, hj, rfl, rfl⟩ := hrel
  by_cases hlt : j < n
  ·have hal := ha (by omega)
   subst hal
   have d0 : w.cell? ⟨b, off + j * 6, none⟩ = some (.int .i64 (k + 6 * j)) := by rw [h10 j hlt, (marksE_at k n j hlt).1]
   have d1 : w.cell? ⟨b, off + j * 6 + 1, none⟩ = some (.int .i64 (k + 6 * j + 1)) := by rw [h11 j hlt, (marksE_at k n j hlt).2.1]
   have d2 : w.cell? ⟨b, off + j * 6 + 2, none⟩ = some (.int .i64 (k + 6 * j + 1 + 1)) := by rw [h12 j hlt, (marksE_at k n j hlt).2.2.1]
   have d3 : w.cell? ⟨b, off + j * 6 + 3, none⟩ = some (.int .i64 (k + 6 * j + 1 + 1 + 1)) := by rw [h13 j hlt, (marksE_at k n j hlt).2.2.2.1]
   have d4 : w.cell? ⟨b, off + j * 6 + 4, none⟩ = some (.int .i64 (k + 6 * j + 1 + 1 + 1 + 1)) := by rw [h14 j hlt, (marksE_at k n j hlt).2.2.2.2.1]
   have d5 : w.cell? ⟨b, off + j * 6 + 5, none⟩ = some (.int .i64 (k + 6 * j + 1 + 1 + 1 + 1 + 1)) := by rw [h15 j hlt, (marksE_at k n j hlt).2.2.2.2.2]
   clear h10 h11 h12 h13 h14 h15
   have hb0 : 0 ≤ k + 6 * (j : Int) := by omega
   have hb1 : k + 6 * (j : Int) ≤ 10000000000 := by omega
   go_wp2
   go_round
   case rel => exact ⟨j + 1, by omega, by go_num, by go_num⟩
   case measure => simp [intOf]; omega
  ·have hjl : j = n := by omega
   subst hjl
   go_wp2
   go_ret
   exact ⟨rfl, rfl⟩
end
section
open Go.RowKit

theorem markDoneS_nil (a : Option Addr) (q : Nat) (k : Int) (w : World) : Calls Try.prog 21 #[.slice a 0 q, .int .i64 k] w fun e w' => e = .returned (.int .i64 k) ∧ w' = w := by
 go_enter Try.func21, Try.ntmps21
 go_wp2
 go_loop [1, 5] (fun kk i => kk = .int .i64 k ∧ i = .int .i64 0) (fun _ _ => 0)
 case atStart => exact ⟨rfl, rfl⟩
 case round =>
  obtain ⟨rfl, rfl⟩ := hrel
  go_wp2
  go_ret
  exact ⟨rfl, rfl⟩
theorem markBoolS_nil (a : Option Addr) (q : Nat) (k : Int) (w : World) : Calls Try.prog 44 #[.slice a 0 q, .int .i64 k] w fun e w' => e = .returned (.int .i64 k) ∧ w' = w := by
 go_enter Try.func44, Try.ntmps44
 go_wp2
 go_loop [1, 5] (fun kk i => kk = .int .i64 k ∧ i = .int .i64 0) (fun _ _ => 0)
 case atStart => exact ⟨rfl, rfl⟩
 case round =>
  obtain ⟨rfl, rfl⟩ := hrel
  go_wp2
  go_ret
  exact ⟨rfl, rfl⟩
theorem markEntryS_nil (a : Option Addr) (q : Nat) (k : Int) (w : World) : Calls Try.prog 39 #[.slice a 0 q, .int .i64 k] w fun e w' => e = .returned (.int .i64 k) ∧ w' = w := by
 go_enter Try.func39, Try.ntmps39
 go_wp2
 go_loop [1, 5] (fun kk i => kk = .int .i64 k ∧ i = .int .i64 0) (fun _ _ => 0)
 case atStart => exact ⟨rfl, rfl⟩
 case round =>
  obtain ⟨rfl, rfl⟩ := hrel
  go_wp2
  go_ret
  exact ⟨rfl, rfl⟩
theorem markDoneS_g (base : Nat) (v : Value) (l : DL) (k : Int) (w : World) (h : OwnE w base 78 4 v l.length (flatD l)) (hn : l.length ≤ 67108864) (hk0 : 0 ≤ k) (hk1 : k ≤ 671088640) :
  Calls Try.prog 21 #[v, .int .i64 k] w fun e w' => e = .returned (.int .i64 (k + 4 * l.length)) ∧ OwnE w' base 78 4 v l.length (flatD (marksD k l.length)) ∧ Chg (fun g => wrB v g) w w' := by
 rcases h with h | ⟨h0, h1, g, rfl⟩
 ·obtain ⟨a, cap, hv⟩ := owns_val h
  subst hv
  by_cases hc : 0 < l.length
  ·refine (markDoneS_any _ l k w (owns_mono h (Nat.zero_le _)) (by omega) hk0 (by omega)).mono ?_
   rintro e w' ⟨rfl, o, c⟩
   have hb : ∀ g, (Value.slice a l.length cap).ownBlock = some g → wrB (.slice a l.length cap) g := fun g hg => by
    obtain ⟨_, ⟨e, e2⟩ | ⟨g', cap', cur, e, _, _, hle, _⟩⟩ := h
    ·omega
    ·simp at e
     obtain ⟨rfl, rfl⟩ := e
     simp [Value.ownBlock] at hg
     subst hg
     exact ⟨_, _, rfl, by omega⟩
   refine ⟨rfl, .inl ?_, c.mono (fun g _ hg => hb g hg)⟩
   obtain ⟨hl, h1 | ⟨g, cap', cur, e, hg, hh, hn', hcap, hsz, ht⟩⟩ := o
   ·exact ⟨hl, .inl h1⟩
   ·exact ⟨hl, .inr ⟨g, cap', cur, e, (h.lt g (by rw [e]; rfl)).1, hh, hn', hcap, hsz, ht⟩⟩
  ·have hl : l = [] := List.length_eq_zero_iff.1 (by omega)
   subst hl
   refine (markDoneS_nil a cap k w).mono ?_
   rintro e w' ⟨rfl, rfl⟩
   exact ⟨by simp, .inl h, Chg.refl _ _⟩
 ·have hl : l = [] := List.length_eq_zero_iff.1 h0
  subst hl
  refine (markDoneS_nil _ 0 k w).mono ?_
  rintro e w' ⟨rfl, rfl⟩
  exact ⟨by simp, .inr ⟨rfl, rfl, g, rfl⟩, Chg.refl _ _⟩
theorem markBoolS_g (base : Nat) (v : Value) (l : List Bool) (k : Int) (w : World) (h : OwnE w base 4 1 v l.length (flatL l)) (hn : l.length ≤ 67108864) (hk0 : 0 ≤ k) (hk1 : k ≤ 671088640) :
  Calls Try.prog 44 #[v, .int .i64 k] w fun e w' => e = .returned (.int .i64 (k + l.length)) ∧ OwnE w' base 4 1 v l.length (flatL (marksL k l.length)) ∧ Chg (fun g => wrB v g) w w' := by
 rcases h with h | ⟨h0, h1, g, rfl⟩
 ·obtain ⟨a, cap, hv⟩ := owns_val h
  subst hv
  by_cases hc : 0 < l.length
  ·refine (markBoolS_m _ l k w (owns_mono h (Nat.zero_le _)) (by omega) hk0 (by omega)).mono ?_
   rintro e w' ⟨rfl, o, c⟩
   have hb : ∀ g, (Value.slice a l.length cap).ownBlock = some g → wrB (.slice a l.length cap) g := fun g hg => by
    obtain ⟨_, ⟨e, e2⟩ | ⟨g', cap', cur, e, _, _, hle, _⟩⟩ := h
    ·omega
    ·simp at e
     obtain ⟨rfl, rfl⟩ := e
     simp [Value.ownBlock] at hg
     subst hg
     exact ⟨_, _, rfl, by omega⟩
   refine ⟨rfl, .inl ?_, c.mono (fun g _ hg => hb g hg)⟩
   obtain ⟨hl, h1 | ⟨g, cap', cur, e, hg, hh, hn', hcap, hsz, ht⟩⟩ := o
   ·exact ⟨hl, .inl h1⟩
   ·exact ⟨hl, .inr ⟨g, cap', cur, e, (h.lt g (by rw [e]; rfl)).1, hh, hn', hcap, hsz, ht⟩⟩
  ·have hl : l = [] := List.length_eq_zero_iff.1 (by omega)
   subst hl
   refine (markBoolS_nil a cap k w).mono ?_
   rintro e w' ⟨rfl, rfl⟩
   exact ⟨by simp, .inl h, Chg.refl _ _⟩
 ·have hl : l = [] := List.length_eq_zero_iff.1 h0
  subst hl
  refine (markBoolS_nil _ 0 k w).mono ?_
  rintro e w' ⟨rfl, rfl⟩
  exact ⟨by simp, .inr ⟨rfl, rfl, g, rfl⟩, Chg.refl _ _⟩
theorem markEntryS_g (base : Nat) (v : Value) (l : EL) (k : Int) (w : World) (h : OwnE w base 101 6 v l.length (flatE l)) (hn : l.length ≤ 67108864) (hk0 : 0 ≤ k) (hk1 : k ≤ 671088640) :
  Calls Try.prog 39 #[v, .int .i64 k] w fun e w' => e = .returned (.int .i64 (k + 6 * l.length)) ∧ OwnE w' base 101 6 v l.length (flatE (marksE k l.length)) ∧ Chg (fun g => wrB v g) w w' := by
 rcases h with h | ⟨h0, h1, g, rfl⟩
 ·obtain ⟨a, cap, hv⟩ := owns_val h
  subst hv
  by_cases hc : 0 < l.length
  ·refine (markEntryS_any _ l k w (owns_mono h (Nat.zero_le _)) (by omega) hk0 (by omega)).mono ?_
   rintro e w' ⟨rfl, o, c⟩
   have hb : ∀ g, (Value.slice a l.length cap).ownBlock = some g → wrB (.slice a l.length cap) g := fun g hg => by
    obtain ⟨_, ⟨e, e2⟩ | ⟨g', cap', cur, e, _, _, hle, _⟩⟩ := h
    ·omega
    ·simp at e
     obtain ⟨rfl, rfl⟩ := e
     simp [Value.ownBlock] at hg
     subst hg
     exact ⟨_, _, rfl, by omega⟩
   refine ⟨rfl, .inl ?_, c.mono (fun g _ hg => hb g hg)⟩
   obtain ⟨hl, h1 | ⟨g, cap', cur, e, hg, hh, hn', hcap, hsz, ht⟩⟩ := o
   ·exact ⟨hl, .inl h1⟩
   ·exact ⟨hl, .inr ⟨g, cap', cur, e, (h.lt g (by rw [e]; rfl)).1, hh, hn', hcap, hsz, ht⟩⟩
  ·have hl : l = [] := List.length_eq_zero_iff.1 (by omega)
   subst hl
   refine (markEntryS_nil a cap k w).mono ?_
   rintro e w' ⟨rfl, rfl⟩
   exact ⟨by simp, .inl h, Chg.refl _ _⟩
 ·have hl : l = [] := List.length_eq_zero_iff.1 h0
  subst hl
  refine (markEntryS_nil _ 0 k w).mono ?_
  rintro e w' ⟨rfl, rfl⟩
  exact ⟨by simp, .inr ⟨rfl, rfl, g, rfl⟩, Chg.refl _ _⟩
end
end Go.Proofs.Ytdcladffnjikkaa
