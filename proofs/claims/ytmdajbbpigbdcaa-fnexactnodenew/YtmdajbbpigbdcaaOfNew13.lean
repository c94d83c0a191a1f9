/-
  The laws' own functions that write marks into a list of truths, and look for them.
  The laws' own functions that write marks into a list of entries, and look for them.
  Marks in rows of their own, empty ones too: what was done last, truths, entries.
  The laws' own copy of a tree lies in memory of its own, each row apart from all others.
  toMachine: a machine copied out of the law's own kind lies in memory of its own, every row apart.
  Nodes in memory of their own: each list in a stretch of blocks of its own.
  The laws' own functions that write marks into a list of messages, and look for them.
-/
import Derived.Test.YtmdajbbpigbdcaaOfNew12
import Derived.Test.YtmdajbbpigbdcaaOfNew3
import Derived.Test.YtmdajbbpigbdcaaOfNew1
import Derived.Test.YtmdajbbpigbdcaaOfNew7
import Derived.Test.YtmdajbbpigbdcaaOfNew8
import Derived.Test.YtmdajbbpigbdcaaOfNew2
import Derived.Test.YtmdajbbpigbdcaaOfNew4
namespace Go.Proofs.Ytmdajbbpigbdcaa
set_option maxRecDepth 100000
set_option maxHeartbeats 8000000
section
open Go.RowKit

def marksL (k : Int) (n : Nat) : List Bool := (List.range n).map fun (i : Nat) => mrk (k + i)
theorem marksL_length (k : Int) (n : Nat) : (marksL k n).length = n := by simp [marksL]
theorem marksL_succ (k : Int) (n : Nat) : marksL k (n + 1) = marksL k n ++ [mrk (k + n)] := by simp [marksL, List.range_succ]
theorem marksL_at (k : Int) (n i : Nat) (h : i < n) : bOf (marksL k n) i = mrk (k + i) := by simp [marksL, bOf, List.getD, h]
def midL (k : Int) (l : List Bool) (i : Nat) : List Bool := marksL k i ++ l.drop i
theorem midL_length (k : Int) (l : List Bool) (i : Nat) (h : i ≤ l.length) : (midL k l i).length = l.length := by simp [midL, marksL_length]; omega
theorem midL_zero (k : Int) (l : List Bool) : midL k l 0 = l := by simp [midL, marksL]
theorem midL_full (k : Int) (l : List Bool) : midL k l l.length = marksL k l.length := by simp [midL]
theorem midL_step (k : Int) (l : List Bool) (i : Nat) (h : i < l.length) : (midL k l i).set i (mrk (k + i)) = midL k l (i + 1) := by
 rw [midL, midL, marksL_succ, List.drop_eq_getElem_cons h, List.set_append_right _ _ (by rw [marksL_length]; omega), marksL_length, Nat.sub_self, List.set_cons_zero]
 simp

theorem markBoolS_m (v : Value) (l : List Bool) (k : Int) (w : World) (h : w.ownsRow 0 4 1 v l.length (flatL l)) (hn : l.length ≤ 67108864) (hk0 : 0 ≤ k) (hk1 : k ≤ 671088640) :
  Calls Try.prog 29 #[v, .int .i64 k] w fun e w' => e = .returned (.int .i64 (k + l.length)) ∧ w'.ownsRow 0 4 1 v l.length (flatL (marksL k l.length)) ∧ Chg (fun g => v.ownBlock = some g) w w' := by
 obtain ⟨a, cap, hv⟩ := owns_val h
 have OW : Hid (w.ownsRow 0 4 1 v l.length (flatL l)) := h
 clear h
 rw [hv] at OW ⊢
 clear hv
 have hcap := owns_capD OW.out
 unfold maxLen at hcap
 go_enter Try.func29, Try.ntmps29
 go_wp2
 go_loopw [1, 5] (fun kk i wr => ∃ j : Nat, j ≤ l.length ∧ i = .int .i64 j ∧ kk = .int .i64 (k + j) ∧ wr.ownsRow 0 4 1 (.slice a l.length cap) l.length (flatL (midL k l j)) ∧ Chg (fun g => (Value.slice a l.length cap).ownBlock = some g) w wr)
  (fun _ i _ => l.length - (intOf i).toNat)
 case atStart => exact ⟨0, Nat.zero_le _, rfl, by simp, by rw [midL_zero]; exact OW.out, Chg.refl _ _⟩
 case round =>
  obtain ⟨j, hj, rfl, rfl, hown, hch⟩ := hrel
  by_cases hlt : j < l.length
  ·have hex : ∃ g, a = some ⟨g, 0, none⟩ := by
    obtain ⟨_, ⟨e, e2⟩ | ⟨g, cap', cur, e, _⟩⟩ := hown
    ·omega
    ·simp at e; exact ⟨g, e.1⟩
   obtain ⟨g, rfl⟩ := hex
   have hml : (midL k l j).length = l.length := midL_length k l j hj
   have hat := flatL_at (midL k l j) j (by omega)
   have e0 := (hown.cellAt j (by omega)).trans hat
   have f0 := hown.frozenAt j
   have st0 := (hown.stored j (.bool (mrk (k + j)))).1
   rw [flatL_set, midL_step k l j hlt] at st0
   have hch2 : Chg (fun g' => (Value.slice (some ⟨g, 0, none⟩) l.length cap).ownBlock = some g') w (wr.setCell ⟨g, j, none⟩ (.bool (mrk (k + j)))) := hch.setAt g j rfl _
   generalize bOf (midL k l j) j = x0 at *
   have ST : Hid _ := And.intro st0 hch2
   clear st0 hch2 hown hch hml hat OW
   have hb0 : 0 ≤ k + (j : Int) := by omega
   have hb1 : k + (j : Int) ≤ 10000000000 := by omega
   go_wp2
   go_roundw
   case rel => exact ⟨j + 1, by omega, by go_num, by go_num, ST.out.1, ST.out.2⟩
   case measure => simp [intOf]; omega
  ·have hjl : j = l.length := by omega
   subst hjl
   go_wp2
   go_ret
   rw [midL_full] at hown
   exact ⟨rfl, hown, hch⟩

theorem heldBoolS_any (v : Value) (n : Nat) (k : Int) (w : World) (h : Row w v n (flatL (marksL k n))) (hn : n ≤ 67108864) (hk0 : 0 ≤ k) (hk1 : k ≤ 671088640) :
  Calls Try.prog 33 #[v, .int .i64 k] w fun e w' => e = .returned (.int .i64 (k + n)) ∧ w' = w := by
 have h' : Row w v (marksL k n).length (flatL (marksL k n)) := by rw [marksL_length]; exact h
 obtain ⟨a, b, off, cap, rfl, hcap, hmax, ha, h10⟩ := h'.bools
 rw [marksL_length] at *
 unfold maxLen at hmax
 clear h h'
 go_enter Try.func33, Try.ntmps33
 go_wp2
 go_loop [1, 5] (fun kk i => ∃ j : Nat, j ≤ n ∧ i = .int .i64 j ∧ kk = .int .i64 (k + j)) (fun _ i => n - (intOf i).toNat)
 case atStart => exact ⟨0, Nat.zero_le _, rfl, by simp⟩
 case round =>
  obtain ⟨j, hj, rfl, rfl⟩ := hrel
  by_cases hlt : j < n
  ·have hal := ha (by omega)
   subst hal
   have d0 : w.cell? ⟨b, off + j, none⟩ = some (.bool (mrk (k + j))) := by rw [h10 j hlt, marksL_at k n j hlt]
   clear h10
   have hb0 : 0 ≤ k + (j : Int) := by omega
   have hb1 : k + (j : Int) ≤ 10000000000 := by omega
   by_cases hm : (k + (j : Int)) % 3 = 0
   ·have hm2 : mrk (k + (j : Int)) = true := by simp [mrk, hm]
    rw [hm2] at d0
    have hm3 : ((k + (j : Int)) % 3 == 0) = true := hm2
    go_wp2
    go_round
    case rel => exact ⟨j + 1, by omega, by go_num, by go_num⟩
    case measure => simp [intOf]; omega
   ·have hm2 : mrk (k + (j : Int)) = false := by simp [mrk, hm]
    rw [hm2] at d0
    have hm3 : ((k + (j : Int)) % 3 == 0) = false := hm2
    go_wp2
    go_round
    case rel => exact ⟨j + 1, by omega, by go_num, by go_num⟩
    case measure => simp [intOf]; omega
  ·have hjl : j = n := by omega
   subst hjl
   go_wp2
   go_ret
   exact ⟨rfl, rfl⟩
end
section
open Go.RowKit

def marksE (k : Int) (n : Nat) : EL := (List.range n).map fun (i : Nat) => (k + 6 * i, k + 6 * i + 1, k + 6 * i + 1 + 1, k + 6 * i + 1 + 1 + 1, k + 6 * i + 1 + 1 + 1 + 1, k + 6 * i + 1 + 1 + 1 + 1 + 1)
theorem marksE_length (k : Int) (n : Nat) : (marksE k n).length = n := by simp [marksE]
theorem marksE_succ (k : Int) (n : Nat) : marksE k (n + 1) = marksE k n ++ [(k + 6 * n, k + 6 * n + 1, k + 6 * n + 1 + 1, k + 6 * n + 1 + 1 + 1, k + 6 * n + 1 + 1 + 1 + 1, k + 6 * n + 1 + 1 + 1 + 1 + 1)] := by simp [marksE, List.range_succ]
theorem marksE_at (k : Int) (n i : Nat) (h : i < n) : eT (marksE k n) i = k + 6 * i ∧ eC (marksE k n) i = k + 6 * i + 1 ∧ eS (marksE k n) i = k + 6 * i + 1 + 1 ∧ eO (marksE k n) i = k + 6 * i + 1 + 1 + 1 ∧ eK (marksE k n) i = k + 6 * i + 1 + 1 + 1 + 1 ∧ eV (marksE k n) i = k + 6 * i + 1 + 1 + 1 + 1 + 1 := by
 simp [marksE, eT, eC, eS, eO, eK, eV, List.getD, h]
def midE (k : Int) (l : EL) (i : Nat) : EL := marksE k i ++ l.drop i
theorem midE_length (k : Int) (l : EL) (i : Nat) (h : i ≤ l.length) : (midE k l i).length = l.length := by simp [midE, marksE_length]; omega
theorem midE_zero (k : Int) (l : EL) : midE k l 0 = l := by simp [midE, marksE]
theorem midE_full (k : Int) (l : EL) : midE k l l.length = marksE k l.length := by simp [midE]
theorem midE_step (k : Int) (l : EL) (i : Nat) (h : i < l.length) : (midE k l i).set i (k + 6 * i, k + 6 * i + 1, k + 6 * i + 1 + 1, k + 6 * i + 1 + 1 + 1, k + 6 * i + 1 + 1 + 1 + 1, k + 6 * i + 1 + 1 + 1 + 1 + 1) = midE k l (i + 1) := by
 rw [midE, midE, marksE_succ, List.drop_eq_getElem_cons h, List.set_append_right _ _ (by rw [marksE_length]; omega), marksE_length, Nat.sub_self, List.set_cons_zero]
 simp

theorem owns_capE {w : World} {base e size n cap : Nat} {a : Option Addr} {xs : List Value} (h : w.ownsRow base e size (.slice a n cap) n xs) : cap ≤ maxLen := by
 obtain ⟨_, ⟨e, _⟩ | ⟨g, cap', cur, e, _, _, _, hc, _⟩⟩ := h
 ·simp at e; rw [e.2.2]; exact Nat.zero_le _
 ·simp at e; rw [e.2]; exact hc

theorem markEntryS_any (v : Value) (l : EL) (k : Int) (w : World) (h : w.ownsRow 0 82 6 v l.length (flatE l)) (hn : l.length ≤ 67108864) (hk0 : 0 ≤ k) (hk1 : k ≤ 671088640) :
  Calls Try.prog 53 #[v, .int .i64 k] w fun e w' => e = .returned (.int .i64 (k + 6 * l.length)) ∧ w'.ownsRow 0 82 6 v l.length (flatE (marksE k l.length)) ∧ Chg (fun g => v.ownBlock = some g) w w' := by
 obtain ⟨a, cap, hv⟩ := owns_val h
 have OW : Hid (w.ownsRow 0 82 6 v l.length (flatE l)) := h
 clear h
 rw [hv] at OW ⊢
 clear hv
 have hcap := owns_capE OW.out
 unfold maxLen at hcap
 go_enter Try.func53, Try.ntmps53
 go_wp2
 go_loopw [1, 5] (fun kk i wr => ∃ j : Nat, j ≤ l.length ∧ i = .int .i64 j ∧ kk = .int .i64 (k + 6 * j) ∧ wr.ownsRow 0 82 6 (.slice a l.length cap) l.length (flatE (midE k l j)) ∧ Chg (fun g => (Value.slice a l.length cap).ownBlock = some g) w wr)
  (fun _ i _ => l.length - (intOf i).toNat)
 case atStart => exact ⟨0, Nat.zero_le _, rfl, by simp, by rw [midE_zero]; exact OW.out, Chg.refl _ _⟩
 case round =>
  obtain ⟨j, hj, rfl, rfl, hown, hch⟩ := hrel
  by_cases hlt : j < l.length
  ·have hex : ∃ g, a = some ⟨g, 0, none⟩ := by
    obtain ⟨_, ⟨e, e2⟩ | ⟨g, cap', cur, e, _⟩⟩ := hown
    ·omega
    ·simp at e; exact ⟨g, e.1⟩
   obtain ⟨g, rfl⟩ := hex
   have hml : (midE k l j).length = l.length := midE_length k l j hj
   have hat := flatE_at (midE k l j) j (by omega)
   have e0 := (hown.cellAt (j * 6) (by omega)).trans hat.1
   have f0 := hown.frozenAt (j * 6)
   have e1 := (hown.cellAt (j * 6 + 1) (by omega)).trans hat.2.1
   have f1 := hown.frozenAt (j * 6 + 1)
   have e2 := (hown.cellAt (j * 6 + 2) (by omega)).trans hat.2.2.1
   have f2 := hown.frozenAt (j * 6 + 2)
   have e3 := (hown.cellAt (j * 6 + 3) (by omega)).trans hat.2.2.2.1
   have f3 := hown.frozenAt (j * 6 + 3)
   have e4 := (hown.cellAt (j * 6 + 4) (by omega)).trans hat.2.2.2.2.1
   have f4 := hown.frozenAt (j * 6 + 4)
   have e5 := (hown.cellAt (j * 6 + 5) (by omega)).trans hat.2.2.2.2.2
   have f5 := hown.frozenAt (j * 6 + 5)
   have st0 := (hown.stored (j * 6) (.int .i64 (k + 6 * j))).1
   have st1 := (st0.stored (j * 6 + 1) (.int .i64 (k + 6 * j + 1))).1
   have st2 := (st1.stored (j * 6 + 2) (.int .i64 (k + 6 * j + 1 + 1))).1
   have st3 := (st2.stored (j * 6 + 3) (.int .i64 (k + 6 * j + 1 + 1 + 1))).1
   have st4 := (st3.stored (j * 6 + 4) (.int .i64 (k + 6 * j + 1 + 1 + 1 + 1))).1
   have st5 := (st4.stored (j * 6 + 5) (.int .i64 (k + 6 * j + 1 + 1 + 1 + 1 + 1))).1
   rw [flatE_set _ _ _ _ _ _ _ j (by omega), midE_step k l j hlt] at st5
   have hch2 : Chg (fun g' => (Value.slice (some ⟨g, 0, none⟩) l.length cap).ownBlock = some g') w ((((((wr.setCell ⟨g, j * 6, none⟩ (.int .i64 (k + 6 * j))).setCell ⟨g, j * 6 + 1, none⟩ (.int .i64 (k + 6 * j + 1))).setCell ⟨g, j * 6 + 2, none⟩ (.int .i64 (k + 6 * j + 1 + 1))).setCell ⟨g, j * 6 + 3, none⟩ (.int .i64 (k + 6 * j + 1 + 1 + 1))).setCell ⟨g, j * 6 + 4, none⟩ (.int .i64 (k + 6 * j + 1 + 1 + 1 + 1))).setCell ⟨g, j * 6 + 5, none⟩ (.int .i64 (k + 6 * j + 1 + 1 + 1 + 1 + 1))) := ((((((hch.setAt g _ rfl _).setAt g _ rfl _).setAt g _ rfl _).setAt g _ rfl _).setAt g _ rfl _).setAt g _ rfl _)
   generalize eT (midE k l j) j = x0 at *
   generalize eC (midE k l j) j = x1 at *
   generalize eS (midE k l j) j = x2 at *
   generalize eO (midE k l j) j = x3 at *
   generalize eK (midE k l j) j = x4 at *
   generalize eV (midE k l j) j = x5 at *
   have ST : Hid _ := And.intro st5 hch2
   clear st0 st1 st2 st3 st4 st5 hch2 hown hch hml hat OW
   have hb0 : 0 ≤ k + 6 * (j : Int) := by omega
   have hb1 : k + 6 * (j : Int) ≤ 10000000000 := by omega
   go_wp2
   go_roundw
   case rel => exact ⟨j + 1, by omega, by go_num, by go_num, ST.out.1, ST.out.2⟩
   case measure => simp [intOf]; omega
  ·have hjl : j = l.length := by omega
   subst hjl
   go_wp2
   go_ret
   rw [midE_full] at hown
   exact ⟨rfl, hown, hch⟩

theorem heldEntryS_any (v : Value) (n : Nat) (k : Int) (w : World) (h : Row w v n (flatE (marksE k n))) (hn : n ≤ 67108864) (hk0 : 0 ≤ k) (hk1 : k ≤ 671088640) :
  Calls Try.prog 56 #[v, .int .i64 k] w fun e w' => e = .returned (.int .i64 (k + 6 * n)) ∧ w' = w := by
 have h' : Row w v (marksE k n).length (flatE (marksE k n)) := by rw [marksE_length]; exact h
 obtain ⟨a, b, off, cap, rfl, hcap, hmax, ha, h10, h11, h12, h13, h14, h15⟩ := h'.ents
 rw [marksE_length] at *
 unfold maxLen at hmax
 clear h h'
 go_enter Try.func56, Try.ntmps56
 go_wp2
 go_loop [1, 5] (fun kk i => ∃ j : Nat, j ≤ n ∧ i = .int .i64 j ∧ kk = .int .i64 (k + 6 * j)) (fun _ i => n - (intOf i).toNat)
 case atStart => exact ⟨0, Nat.zero_le _, rfl, by simp⟩
 case round =>
  obtain ⟨j, hj, rfl, rfl⟩ := hrel
  by_cases hlt : j < n
  ·have hal := ha (by omega)
   subst hal
   have d0 : w.cell? ⟨b, off + j * 6, none⟩ = some (.int .i64 (k + 6 * j)) := by rw [h10 j hlt, (marksE_at k n j hlt).1]
   have d1 : w.cell? ⟨b, off + j * 6 + 1, none⟩ = some (.int .i64 (k + 6 * j + 1)) := by rw [h11 j hlt, (marksE_at k n j hlt).2.1]
   have d2 : w.cell? ⟨b, off + j * 6 + 2, none⟩ = some (.int .i64 (k + 6 * j + 1 + 1)) := by rw [h12 j hlt, (marksE_at k n j hlt).2.2.1]
   have d3 : w.cell? ⟨b, off + j * 6 + 3, none⟩ = some (.int .i64 (k + 6 * j + 1 + 1 + 1)) := by rw [h13 j hlt, (marksE_at k n j hlt).2.2.2.1]
   have d4 : w.cell? ⟨b, off + j * 6 + 4, none⟩ = some (.int .i64 (k + 6 * j + 1 + 1 + 1 + 1)) := by rw [h14 j hlt, (marksE_at k n j hlt).2.2.2.2.1]
   have d5 : w.cell? ⟨b, off + j * 6 + 5, none⟩ = some (.int .i64 (k + 6 * j + 1 + 1 + 1 + 1 + 1)) := by rw [h15 j hlt, (marksE_at k n j hlt).2.2.2.2.2]
   clear h10 h11 h12 h13 h14 h15
   have hb0 : 0 ≤ k + 6 * (j : Int) := by omega
   have hb1 : k + 6 * (j : Int) ≤ 10000000000 := by omega
   go_wp2
   go_round
   case rel => exact ⟨j + 1, by omega, by go_num, by go_num⟩
   case measure => simp [intOf]; omega
  ·have hjl : j = n := by omega
   subst hjl
   go_wp2
   go_ret
   exact ⟨rfl, rfl⟩
end
section
open Go.RowKit

theorem markDoneS_nil (a : Option Addr) (q : Nat) (k : Int) (w : World) : Calls Try.prog 55 #[.slice a 0 q, .int .i64 k] w fun e w' => e = .returned (.int .i64 k) ∧ w' = w := by
 go_enter Try.func55, Try.ntmps55
 go_wp2
 go_loop [1, 5] (fun kk i => kk = .int .i64 k ∧ i = .int .i64 0) (fun _ _ => 0)
 case atStart => exact ⟨rfl, rfl⟩
 case round =>
  obtain ⟨rfl, rfl⟩ := hrel
  go_wp2
  go_ret
  exact ⟨rfl, rfl⟩
theorem markBoolS_nil (a : Option Addr) (q : Nat) (k : Int) (w : World) : Calls Try.prog 29 #[.slice a 0 q, .int .i64 k] w fun e w' => e = .returned (.int .i64 k) ∧ w' = w := by
 go_enter Try.func29, Try.ntmps29
 go_wp2
 go_loop [1, 5] (fun kk i => kk = .int .i64 k ∧ i = .int .i64 0) (fun _ _ => 0)
 case atStart => exact ⟨rfl, rfl⟩
 case round =>
  obtain ⟨rfl, rfl⟩ := hrel
  go_wp2
  go_ret
  exact ⟨rfl, rfl⟩
theorem markEntryS_nil (a : Option Addr) (q : Nat) (k : Int) (w : World) : Calls Try.prog 53 #[.slice a 0 q, .int .i64 k] w fun e w' => e = .returned (.int .i64 k) ∧ w' = w := by
 go_enter Try.func53, Try.ntmps53
 go_wp2
 go_loop [1, 5] (fun kk i => kk = .int .i64 k ∧ i = .int .i64 0) (fun _ _ => 0)
 case atStart => exact ⟨rfl, rfl⟩
 case round =>
  obtain ⟨rfl, rfl⟩ := hrel
  go_wp2
  go_ret
  exact ⟨rfl, rfl⟩
theorem markDoneS_g (base : Nat) (v : Value) (l : DL) (k : Int) (w : World) (h : OwnE w base 109 4 v l.length (flatD l)) (hn : l.length ≤ 67108864) (hk0 : 0 ≤ k) (hk1 : k ≤ 671088640) :
  Calls Try.prog 55 #[v, .int .i64 k] w fun e w' => e = .returned (.int .i64 (k + 4 * l.length)) ∧ OwnE w' base 109 4 v l.length (flatD (marksD k l.length)) ∧ Chg (fun g => wrB v g) w w' := by
 rcases h with h | ⟨h0, h1, g, rfl⟩
 ·obtain ⟨a, cap, hv⟩ := owns_val h
  subst hv
  by_cases hc : 0 < l.length
  ·refine (markDoneS_any _ l k w (owns_mono h (Nat.zero_le _)) (by omega) hk0 (by omega)).mono ?_
   rintro e w' ⟨rfl, o, c⟩
   have hb : ∀ g, (Value.slice a l.length cap).ownBlock = some g → wrB (.slice a l.length cap) g := fun g hg => by
    obtain ⟨_, ⟨e, e2⟩ | ⟨g', cap', cur, e, _, _, hle, _⟩⟩ := h
    ·omega
    ·simp at e
     obtain ⟨rfl, rfl⟩ := e
     simp [Value.ownBlock] at hg
     subst hg
     exact ⟨_, _, rfl, by omega⟩
   refine ⟨rfl, .inl ?_, c.mono (fun g _ hg => hb g hg)⟩
   obtain ⟨hl, h1 | ⟨g, cap', cur, e, hg, hh, hn', hcap, hsz, ht⟩⟩ := o
   ·exact ⟨hl, .inl h1⟩
   ·exact ⟨hl, .inr ⟨g, cap', cur, e, (h.lt g (by rw [e]; rfl)).1, hh, hn', hcap, hsz, ht⟩⟩
  ·have hl : l = [] := List.length_eq_zero_iff.1 (by omega)
   subst hl
   refine (markDoneS_nil a cap k w).mono ?_
   rintro e w' ⟨rfl, rfl⟩
   exact ⟨by simp, .inl h, Chg.refl _ _⟩
 ·have hl : l = [] := List.length_eq_zero_iff.1 h0
  subst hl
  refine (markDoneS_nil _ 0 k w).mono ?_
  rintro e w' ⟨rfl, rfl⟩
  exact ⟨by simp, .inr ⟨rfl, rfl, g, rfl⟩, Chg.refl _ _⟩
theorem markBoolS_g (base : Nat) (v : Value) (l : List Bool) (k : Int) (w : World) (h : OwnE w base 4 1 v l.length (flatL l)) (hn : l.length ≤ 67108864) (hk0 : 0 ≤ k) (hk1 : k ≤ 671088640) :
  Calls Try.prog 29 #[v, .int .i64 k] w fun e w' => e = .returned (.int .i64 (k + l.length)) ∧ OwnE w' base 4 1 v l.length (flatL (marksL k l.length)) ∧ Chg (fun g => wrB v g) w w' := by
 rcases h with h | ⟨h0, h1, g, rfl⟩
 ·obtain ⟨a, cap, hv⟩ := owns_val h
  subst hv
  by_cases hc : 0 < l.length
  ·refine (markBoolS_m _ l k w (owns_mono h (Nat.zero_le _)) (by omega) hk0 (by omega)).mono ?_
   rintro e w' ⟨rfl, o, c⟩
   have hb : ∀ g, (Value.slice a l.length cap).ownBlock = some g → wrB (.slice a l.length cap) g := fun g hg => by
    obtain ⟨_, ⟨e, e2⟩ | ⟨g', cap', cur, e, _, _, hle, _⟩⟩ := h
    ·omega
    ·simp at e
     obtain ⟨rfl, rfl⟩ := e
     simp [Value.ownBlock] at hg
     subst hg
     exact ⟨_, _, rfl, by omega⟩
   refine ⟨rfl, .inl ?_, c.mono (fun g _ hg => hb g hg)⟩
   obtain ⟨hl, h1 | ⟨g, cap', cur, e, hg, hh, hn', hcap, hsz, ht⟩⟩ := o
   ·exact ⟨hl, .inl h1⟩
   ·exact ⟨hl, .inr ⟨g, cap', cur, e, (h.lt g (by rw [e]; rfl)).1, hh, hn', hcap, hsz, ht⟩⟩
  ·have hl : l = [] := List.length_eq_zero_iff.1 (by omega)
   subst hl
   refine (markBoolS_nil a cap k w).mono ?_
   rintro e w' ⟨rfl, rfl⟩
   exact ⟨by simp, .inl h, Chg.refl _ _⟩
 ·have hl : l = [] := List.length_eq_zero_iff.1 h0
  subst hl
  refine (markBoolS_nil _ 0 k w).mono ?_
  rintro e w' ⟨rfl, rfl⟩
  exact ⟨by simp, .inr ⟨rfl, rfl, g, rfl⟩, Chg.refl _ _⟩
theorem markEntryS_g (base : Nat) (v : Value) (l : EL) (k : Int) (w : World) (h : OwnE w base 82 6 v l.length (flatE l)) (hn : l.length ≤ 67108864) (hk0 : 0 ≤ k) (hk1 : k ≤ 671088640) :
  Calls Try.prog 53 #[v, .int .i64 k] w fun e w' => e = .returned (.int .i64 (k + 6 * l.length)) ∧ OwnE w' base 82 6 v l.length (flatE (marksE k l.length)) ∧ Chg (fun g => wrB v g) w w' := by
 rcases h with h | ⟨h0, h1, g, rfl⟩
 ·obtain ⟨a, cap, hv⟩ := owns_val h
  subst hv
  by_cases hc : 0 < l.length
  ·refine (markEntryS_any _ l k w (owns_mono h (Nat.zero_le _)) (by omega) hk0 (by omega)).mono ?_
   rintro e w' ⟨rfl, o, c⟩
   have hb : ∀ g, (Value.slice a l.length cap).ownBlock = some g → wrB (.slice a l.length cap) g := fun g hg => by
    obtain ⟨_, ⟨e, e2⟩ | ⟨g', cap', cur, e, _, _, hle, _⟩⟩ := h
    ·omega
    ·simp at e
     obtain ⟨rfl, rfl⟩ := e
     simp [Value.ownBlock] at hg
     subst hg
     exact ⟨_, _, rfl, by omega⟩
   refine ⟨rfl, .inl ?_, c.mono (fun g _ hg => hb g hg)⟩
   obtain ⟨hl, h1 | ⟨g, cap', cur, e, hg, hh, hn', hcap, hsz, ht⟩⟩ := o
   ·exact ⟨hl, .inl h1⟩
   ·exact ⟨hl, .inr ⟨g, cap', cur, e, (h.lt g (by rw [e]; rfl)).1, hh, hn', hcap, hsz, ht⟩⟩
  ·have hl : l = [] := List.length_eq_zero_iff.1 (by omega)
   subst hl
   refine (markEntryS_nil a cap k w).mono ?_
   rintro e w' ⟨rfl, rfl⟩
   exact ⟨by simp, .inl h, Chg.refl _ _⟩
 ·have hl : l = [] := List.length_eq_zero_iff.1 h0
  subst hl
  refine (markEntryS_nil _ 0 k w).mono ?_
  rintro e w' ⟨rfl, rfl⟩
  exact ⟨by simp, .inr ⟨rfl, rfl, g, rfl⟩, Chg.refl _ _⟩
end
section
open Go.RowKit

def KidsD (n : Nat) (w : World) (base k : Nat) (ys : List TV) (ts : List Tr) : Prop :=
 ∃ K : Nat → Nat → Prop, (∀ i, i < k → TreeD n w (K i) (tvAt ys i) (ts.getD i noTr)) ∧ (∀ i g, i < k → K i g → base ≤ g ∧ g < w.heap.size) ∧ ∀ i j g, i < j → j < k → K i g → ¬ K j g
def TreesZ (n : Nat) (w : World) (lo hi : Nat) (v : Value) (ts : List Tr) : Prop :=
 ∃ (xs : List TV) (K : Nat → Nat → Prop), xs.length = ts.length ∧ w.ownsRow lo 30 5 v xs.length (flatT xs) ∧ (∀ i, i < xs.length → TreeD n w (K i) (tvAt xs i) (ts.getD i noTr)) ∧ (∀ i g, i < xs.length → K i g → lo ≤ g ∧ g < hi ∧ ¬ wrB v g) ∧ ∀ i j g, i < j → j < xs.length → K i g → ¬ K j g
def ToTreeD (n : Nat) : Prop := ∀ (x : TV) (T : Tr) (w : World), TreeAt n w x T → sizeT n T ≤ 1048576 →
  Calls Try.prog 65 #[x.val] w fun e w' => ∃ y : TV, e = .returned y.val ∧ TreeD n w' (fun g => w.heap.size ≤ g) y T ∧ Below w.heap.size w w'
def ToTreeDS (n : Nat) : Prop := ∀ (v : Value) (ts : List Tr) (w : World), TreesAt n w v ts → sizeTs n ts ≤ 1048576 →
  Calls Try.prog 96 #[v] w fun e w' => ∃ v' : Value, e = .returned v' ∧ TreesZ n w' w.heap.size w'.heap.size v' ts ∧ Below w.heap.size w w'
end
section
open Go.RowKit

theorem OwnE.of_owns {w : World} {base e size k : Nat} {v : Value} {xs : List Value} (h : w.ownsRow base e size v k xs) : OwnE w base e size v k xs := .inl h
end
section
open Go.RowKit

def OwnI (w : World) (lo hi e size : Nat) (v : Value) (k : Nat) (xs : List Value) : Prop := OwnE w lo e size v k xs ∧ ∀ g, wrB v g → g < hi
theorem OwnI.below {w w' : World} {lo hi e size k : Nat} {v : Value} {xs : List Value} (h : OwnI w lo hi e size v k xs) (hb : Below w.heap.size w w') : OwnI w' lo hi e size v k xs := ⟨h.1.below hb, h.2⟩
theorem OwnI.chg {w w' : World} {P : Nat → Prop} {lo hi e size k : Nat} {v : Value} {xs : List Value} (h : OwnI w lo hi e size v k xs) (hc : Chg P w w') (hP : ∀ g, lo ≤ g → g < hi → ¬ P g) : OwnI w' lo hi e size v k xs := ⟨h.1.chg hc (fun g hg => hP g (h.1.lt g hg).1 (h.2 g hg)), h.2⟩
theorem OwnI.row {w : World} {lo hi e size k : Nat} {v : Value} {xs : List Value} (h : OwnI w lo hi e size v k xs) : Row w v k xs := h.1.rowF.row
def MacI (n : Nat) (w : World) (lo hi : Nat) (m : MacV) (T : Tr) (l : DL) : Prop := MacD n w (fun g => lo ≤ g ∧ g < hi) m T l
theorem MacI.below {n : Nat} {w w' : World} {lo hi : Nat} {m : MacV} {T : Tr} {l : DL} (h : MacI n w lo hi m T l) (hb : Below w.heap.size w w') : MacI n w' lo hi m T l := MacD.below h hb
theorem MacI.chg {n : Nat} {w w' : World} {P : Nat → Prop} {lo hi : Nat} {m : MacV} {T : Tr} {l : DL} (h : MacI n w lo hi m T l) (hc : Chg P w w') (hP : ∀ g, lo ≤ g → g < hi → ¬ P g) : MacI n w' lo hi m T l := MacD.chg h hc (fun g hg => hP g hg.1 hg.2)
theorem MacI.made {n : Nat} {w : World} {lo : Nat} {m : MacV} {T : Tr} {l : DL} (h : MacD n w (fun g => lo ≤ g) m T l) : MacI n w lo w.heap.size m T l := ⟨h.1.lt, h.2.1, fun g hg => ⟨h.2.2 g hg, (h.2.1.lt g hg).2⟩⟩
theorem MacD.at {n : Nat} {w : World} {F : Nat → Prop} {m : MacV} {T : Tr} {l : DL} (h : MacD n w F m T l) : MacAt n w m T l := ⟨h.1.treeF.treeAt, h.2.1.rowF.row⟩
theorem MacI.src {n : Nat} {w : World} {lo hi : Nat} {m : MacV} {T : Tr} {l : DL} (h : MacI n w lo hi m T l) : Src true n w (fun g => lo ≤ g ∧ g < hi) m.x T := ⟨fun _ => h.1, h.1.treeF⟩
theorem MacD.sl {n : Nat} {w : World} {F : Nat → Prop} {m : MacV} {T : Tr} {l : DL} (h : MacD n w F m T l) : ∃ (b : Bool) (x1 x2 x3 x4 x5 : Option Addr × Nat × Nat), m = ⟨⟨b, .slice x1.1 x1.2.1 x1.2.2, .slice x2.1 x2.2.1 x2.2.2, .slice x3.1 x3.2.1 x3.2.2, .slice x4.1 x4.2.1 x4.2.2⟩, .slice x5.1 x5.2.1 x5.2.2⟩ := by
 obtain ⟨x, v⟩ := m
 obtain ⟨b, x1, x2, x3, x4, e⟩ := h.1.sl
 obtain ⟨x5, e5⟩ := h.2.1.sl
 simp only at e e5
 subst e e5
 exact ⟨b, x1, x2, x3, x4, x5, rfl⟩
def NodD (n : Nat) (w : World) (lo : Nat) (N : NodV) (D : Nd) : Prop :=
 ∃ c1 c2 c3 c4 c5 c6 : Nat, lo ≤ c1 ∧ c1 ≤ c2 ∧ c2 ≤ c3 ∧ c3 ≤ c4 ∧ c4 ≤ c5 ∧ c5 ≤ c6 ∧ c6 ≤ w.heap.size ∧
  OwnI w lo c1 82 6 N.lv D.l.length (flatE D.l) ∧ MacI n w c1 c2 N.s D.T1 D.d1 ∧ OwnI w c2 c3 4 1 N.vv D.vs.length (flatL D.vs) ∧ OwnI w c3 c4 3 1 N.nv D.nx.length (flatI D.nx) ∧ OwnI w c4 c5 3 1 N.mv D.mt.length (flatI D.mt) ∧ MacI n w c5 c6 N.o D.T2 D.d2
theorem NodD.at {n : Nat} {w : World} {lo : Nat} {N : NodV} {D : Nd} (h : NodD n w lo N D) : NodAt n w N D := by
 obtain ⟨c1, c2, c3, c4, c5, c6, h1, h2, h3, h4, h5, h6, h7, o1, o2, o3, o4, o5, o6⟩ := h
 exact ⟨o1.row, MacD.at o2, o3.row, o4.row, o5.row, MacD.at o6⟩
end
section
open Go.RowKit

def marksM (k : Int) (n : Nat) : ML := (List.range n).map fun (i : Nat) => (k + 3 * i, k + 3 * i + 1, k + 3 * i + 2)
theorem marksM_length (k : Int) (n : Nat) : (marksM k n).length = n := by simp [marksM]
theorem marksM_succ (k : Int) (n : Nat) : marksM k (n + 1) = marksM k n ++ [(k + 3 * n, k + 3 * n + 1, k + 3 * n + 2)] := by simp [marksM, List.range_succ]
theorem marksM_at (k : Int) (n i : Nat) (h : i < n) : mO (marksM k n) i = k + 3 * i ∧ mK (marksM k n) i = k + 3 * i + 1 ∧ mV (marksM k n) i = k + 3 * i + 2 := by
 simp [marksM, mO, mK, mV, List.getD, h]
def midM (k : Int) (l : ML) (i : Nat) : ML := marksM k i ++ l.drop i
theorem midM_length (k : Int) (l : ML) (i : Nat) (h : i ≤ l.length) : (midM k l i).length = l.length := by simp [midM, marksM_length]; omega
theorem midM_zero (k : Int) (l : ML) : midM k l 0 = l := by simp [midM, marksM]
theorem midM_full (k : Int) (l : ML) : midM k l l.length = marksM k l.length := by simp [midM]
theorem midM_step (k : Int) (l : ML) (i : Nat) (h : i < l.length) : (midM k l i).set i (k + 3 * i, k + 3 * i + 1, k + 3 * i + 2) = midM k l (i + 1) := by
 rw [midM, midM, marksM_succ, List.drop_eq_getElem_cons h, List.set_append_right _ _ (by rw [marksM_length]; omega), marksM_length, Nat.sub_self, List.set_cons_zero]
 simp

theorem owns_cap {w : World} {base e size n cap : Nat} {a : Option Addr} {xs : List Value} (h : w.ownsRow base e size (.slice a n cap) n xs) : cap ≤ maxLen := by
 obtain ⟨_, ⟨e, _⟩ | ⟨g, cap', cur, e, _, _, _, hc, _⟩⟩ := h
 ·simp at e; rw [e.2.2]; exact Nat.zero_le _
 ·simp at e; rw [e.2]; exact hc

theorem markMsgS_any (v : Value) (l : ML) (k : Int) (w : World) (h : w.ownsRow 0 78 3 v l.length (flatM l)) (hn : l.length ≤ 67108864) (hk0 : 0 ≤ k) (hk1 : k ≤ 67108864) :
  Calls Try.prog 84 #[v, .int .i64 k] w fun e w' => e = .returned (.int .i64 (k + 3 * l.length)) ∧ w'.ownsRow 0 78 3 v l.length (flatM (marksM k l.length)) ∧ Chg (fun g => v.ownBlock = some g) w w' := by
 obtain ⟨a, cap, hv⟩ := owns_val h
 have OW : Hid (w.ownsRow 0 78 3 v l.length (flatM l)) := h
 clear h
 rw [hv] at OW ⊢
 clear hv
 have hcap := owns_cap OW.out
 unfold maxLen at hcap
 go_enter Try.func84, Try.ntmps84
 go_wp2
 go_loopw [1, 5] (fun kk i wr => ∃ j : Nat, j ≤ l.length ∧ i = .int .i64 j ∧ kk = .int .i64 (k + 3 * j) ∧ wr.ownsRow 0 78 3 (.slice a l.length cap) l.length (flatM (midM k l j)) ∧ Chg (fun g => (Value.slice a l.length cap).ownBlock = some g) w wr)
  (fun _ i _ => l.length - (intOf i).toNat)
 case atStart => exact ⟨0, Nat.zero_le _, rfl, by simp, by rw [midM_zero]; exact OW.out, Chg.refl _ _⟩
 case round =>
  obtain ⟨j, hj, rfl, rfl, hown, hch⟩ := hrel
  by_cases hlt : j < l.length
  ·have hex : ∃ g, a = some ⟨g, 0, none⟩ := by
    obtain ⟨_, ⟨e, e2⟩ | ⟨g, cap', cur, e, _⟩⟩ := hown
    ·omega
    ·simp at e; exact ⟨g, e.1⟩
   obtain ⟨g, rfl⟩ := hex
   have hml : (midM k l j).length = l.length := midM_length k l j hj
   have hat := flatM_at (midM k l j) j (by omega)
   have e0 := (hown.cellAt (j * 3) (by omega)).trans hat.1
   have e1 := (hown.cellAt (j * 3 + 1) (by omega)).trans hat.2.1
   have e2 := (hown.cellAt (j * 3 + 2) (by omega)).trans hat.2.2
   have f0 := hown.frozenAt (j * 3)
   have f1 := hown.frozenAt (j * 3 + 1)
   have f2 := hown.frozenAt (j * 3 + 2)
   have st := (hown.stored (j * 3) (.int .i64 (k + 3 * j))).1
   have st2 := (st.stored (j * 3 + 1) (.int .i64 (k + 3 * j + 1))).1
   have st3 := (st2.stored (j * 3 + 2) (.int .i64 (k + 3 * j + 2))).1
   rw [flatM_set _ _ _ _ j (by omega), midM_step k l j hlt] at st3
   have hch2 : Chg (fun g' => (Value.slice (some ⟨g, 0, none⟩) l.length cap).ownBlock = some g') w (((wr.setCell ⟨g, j * 3, none⟩ (.int .i64 (k + 3 * j))).setCell ⟨g, j * 3 + 1, none⟩ (.int .i64 (k + 3 * j + 1))).setCell ⟨g, j * 3 + 2, none⟩ (.int .i64 (k + 3 * j + 2))) :=
    ((hch.setAt g _ rfl _).setAt g _ rfl _).setAt g _ rfl _
   generalize mO (midM k l j) j = x0 at *
   generalize mK (midM k l j) j = x1 at *
   generalize mV (midM k l j) j = x2 at *
   have ST : Hid _ := And.intro st3 hch2
   clear st st2 st3 hch2 hown hch hml hat OW
   have hb0 : 0 ≤ k + 3 * (j : Int) := by omega
   have hb1 : k + 3 * (j : Int) ≤ 10000000000 := by omega
   go_wp2
   go_roundw
   case rel => exact ⟨j + 1, by omega, by go_num, by go_num, by rw [show k + 3 * (j : Int) + 2 = k + 3 * (j : Int) + 1 + 1 by omega] at ST; exact ST.out.1, by rw [show k + 3 * (j : Int) + 2 = k + 3 * (j : Int) + 1 + 1 by omega] at ST; exact ST.out.2⟩
   case measure => simp [intOf]; omega
  ·have hjl : j = l.length := by omega
   subst hjl
   go_wp2
   go_ret
   rw [midM_full] at hown
   exact ⟨rfl, hown, hch⟩

theorem heldMsgS_any (v : Value) (n : Nat) (k : Int) (w : World) (h : Row w v n (flatM (marksM k n))) (hn : n ≤ 67108864) (hk0 : 0 ≤ k) (hk1 : k ≤ 67108864) :
  Calls Try.prog 87 #[v, .int .i64 k] w fun e w' => e = .returned (.int .i64 (k + 3 * n)) ∧ w' = w := by
 have h' : Row w v (marksM k n).length (flatM (marksM k n)) := by rw [marksM_length]; exact h
 obtain ⟨a, b, off, cap, rfl, hcap, hmax, ha, ho, hk, hv⟩ := h'.msgs
 rw [marksM_length] at *
 unfold maxLen at hmax
 clear h h'
 go_enter Try.func87, Try.ntmps87
 go_wp2
 go_loop [1, 5] (fun kk i => ∃ j : Nat, j ≤ n ∧ i = .int .i64 j ∧ kk = .int .i64 (k + 3 * j)) (fun _ i => n - (intOf i).toNat)
 case atStart => exact ⟨0, Nat.zero_le _, rfl, by simp⟩
 case round =>
  obtain ⟨j, hj, rfl, rfl⟩ := hrel
  by_cases hlt : j < n
  ·have hal := ha (by omega)
   subst hal
   have d0 : w.cell? ⟨b, off + j * 3, none⟩ = some (.int .i64 (k + 3 * j)) := by rw [ho j hlt, (marksM_at k n j hlt).1]
   have d1 : w.cell? ⟨b, off + j * 3 + 1, none⟩ = some (.int .i64 (k + 3 * j + 1)) := by rw [hk j hlt, (marksM_at k n j hlt).2.1]
   have d2 : w.cell? ⟨b, off + j * 3 + 2, none⟩ = some (.int .i64 (k + 3 * j + 1 + 1)) := by rw [hv j hlt, (marksM_at k n j hlt).2.2, show k + 3 * (j : Int) + 2 = k + 3 * (j : Int) + 1 + 1 by omega]
   clear ho hk hv
   have hb0 : 0 ≤ k + 3 * (j : Int) := by omega
   have hb1 : k + 3 * (j : Int) ≤ 10000000000 := by omega
   go_wp2
   go_round
   case rel => exact ⟨j + 1, by omega, by go_num, by go_num⟩
   case measure => simp [intOf]; omega
  ·have hjl : j = n := by omega
   subst hjl
   go_wp2
   go_ret
   exact ⟨rfl, rfl⟩
end
end Go.Proofs.Ytmdajbbpigbdcaa
