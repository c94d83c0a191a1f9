/-
  The laws' own functions that write marks into a list of entries, and look for them.
  Marks in rows of their own, empty ones too: what was done last, truths, entries.
  A region that draws its order and whose last operation waits for all others: that one may be kept for the end.
  The contract of the model's l4Put.
  Contracts of slices.Grow and slices.Concat at messages, and of the program's msgsOfKid.
-/
import Derived.Test.YtmdajbbpigbdcaaGreatOfFeed4
import Derived.Test.YtmdajbbpigbdcaaGreatOfFeed2
import Derived.Test.YtmdajbbpigbdcaaGreatOfFeed7
import Derived.Test.YtmdajbbpigbdcaaGreatOfFeed12
import Derived.Deep.RegionHeld3
import Derived.Deep.DeepCutAuto
import Derived.Lib.Walk
import Derived.Lib.SliceRun
import Derived.Lib.AppendZerosOnto
namespace Go.Proofs.YtmdajbbpigbdcaaGreat
set_option maxRecDepth 100000
set_option maxHeartbeats 8000000
section
open Go.RowKit

def marksE (k : Int) (n : Nat) : EL := (List.range n).map fun (i : Nat) => (k + 6 * i, k + 6 * i + 1, k + 6 * i + 1 + 1, k + 6 * i + 1 + 1 + 1, k + 6 * i + 1 + 1 + 1 + 1, k + 6 * i + 1 + 1 + 1 + 1 + 1)
theorem marksE_length (k : Int) (n : Nat) : (marksE k n).length = n := by simp [marksE]
theorem marksE_succ (k : Int) (n : Nat) : marksE k (n + 1) = marksE k n ++ [(k + 6 * n, k + 6 * n + 1, k + 6 * n + 1 + 1, k + 6 * n + 1 + 1 + 1, k + 6 * n + 1 + 1 + 1 + 1, k + 6 * n + 1 + 1 + 1 + 1 + 1)] := by simp [marksE, List.range_succ]
theorem marksE_at (k : Int) (n i : Nat) (h : i < n) : eT (marksE k n) i = k + 6 * i ∧ eC (marksE k n) i = k + 6 * i + 1 ∧ eS (marksE k n) i = k + 6 * i + 1 + 1 ∧ eO (marksE k n) i = k + 6 * i + 1 + 1 + 1 ∧ eK (marksE k n) i = k + 6 * i + 1 + 1 + 1 + 1 ∧ eV (marksE k n) i = k + 6 * i + 1 + 1 + 1 + 1 + 1 := by
 simp [marksE, eT, eC, eS, eO, eK, eV, List.getD, h]
def midE (k : Int) (l : EL) (i : Nat) : EL := marksE k i ++ l.drop i
theorem midE_length (k : Int) (l : EL) (i : Nat) (h : i ≤ l.length) : (midE k l i).length = l.length := by simp [midE, marksE_length]; omega
theorem midE_zero (k : Int) (l : EL) : midE k l 0 = l := by simp [midE, marksE]
theorem midE_full (k : Int) (l : EL) : midE k l l.length = marksE k l.length := by simp [midE]
theorem midE_step (k : Int) (l : EL) (i : Nat) (h : i < l.length) : (midE k l i).set i (k + 6 * i, k + 6 * i + 1, k + 6 * i + 1 + 1, k + 6 * i + 1 + 1 + 1, k + 6 * i + 1 + 1 + 1 + 1, k + 6 * i + 1 + 1 + 1 + 1 + 1) = midE k l (i + 1) := by
 rw [midE, midE, marksE_succ, List.drop_eq_getElem_cons h, List.set_append_right _ _ (by rw [marksE_length]; omega), marksE_length, Nat.sub_self, List.set_cons_zero]
 simp

theorem owns_capE {w : World} {base e size n cap : Nat} {a : Option Addr} {xs : List Value} (h : w.ownsRow base e size (.slice a n cap) n xs) : cap ≤ maxLen := by
 obtain ⟨_, ⟨e, _⟩ | ⟨g, cap', cur, e, _, _, _, hc, _⟩⟩ := h
 ·simp at e; rw [e.2.2]; exact Nat.zero_le _
 ·simp at e; rw [e.2]; exact hc

theorem markEntryS_any (v : Value) (l : EL) (k : Int) (w : World) (h : w.ownsRow 0 113 6 v l.length (flatE l)) (hn : l.length ≤ 67108864) (hk0 : 0 ≤ k) (hk1 : k ≤ 671088640) :
  Calls Tryz.prog 51 #[v, .int .i64 k] w fun e w' => e = .returned (.int .i64 (k + 6 * l.length)) ∧ w'.ownsRow 0 113 6 v l.length (flatE (marksE k l.length)) ∧ Chg (fun g => v.ownBlock = some g) w w' := by
 obtain ⟨a, cap, hv⟩ := owns_val h
 have OW : Hid (w.ownsRow 0 113 6 v l.length (flatE l)) := h
 clear h
 rw [hv] at OW ⊢
 clear hv
 have hcap := owns_capE OW.out
 unfold maxLen at hcap
 go_enter Tryz.func51, Tryz.ntmps51
 go_wp2
 go_loopw [1, 5] (fun kk i wr => ∃ j : Nat, j ≤ l.length ∧ i = .int .i64 j ∧ kk = .int .i64 (k + 6 * j) ∧ wr.ownsRow 0 113 6 (.slice a l.length cap) l.length (flatE (midE k l j)) ∧ Chg (fun g => (Value.slice a l.length cap).ownBlock = some g) w wr)
  (fun _ i _ => l.length - (intOf i).toNat)
 case atStart => exact ⟨0, Nat.zero_le _, rfl, by simp, by rw [midE_zero]; exact OW.out, Chg.refl _ _⟩
 case round =>
  obtain ⟨j, hj, rfl, rfl, hown, hch⟩ := hrel
  by_cases hlt : j < l.length
  ·have hex : ∃ g, a = some ⟨g, 0, none⟩ := by
    obtain ⟨_, ⟨e, e2⟩ | ⟨g, cap', cur, e, _⟩⟩ := hown
    ·omega
    ·simp at e; exact ⟨g, e.1⟩
   obtain ⟨g, rfl⟩ := hex
   have hml : (midE k l j).length = l.length := midE_length k l j hj
   have hat := flatE_at (midE k l j) j (by omega)
   have e0 := (hown.cellAt (j * 6) (by omega)).trans hat.1
   have f0 := hown.frozenAt (j * 6)
   have e1 := (hown.cellAt (j * 6 + 1) (by omega)).trans hat.2.1
   have f1 := hown.frozenAt (j * 6 + 1)
   have e2 := (hown.cellAt (j * 6 + 2) (by omega)).trans hat.2.2.1
   have f2 := hown.frozenAt (j * 6 + 2)
   have e3 := (hown.cellAt (j * 6 + 3) (by omega)).trans hat.2.2.2.1
   have f3 := hown.frozenAt (j * 6 + 3)
   have e4 := (hown.cellAt (j * 6 + 4) (by omega)).trans hat.2.2.2.2.1
   have f4 := hown.frozenAt (j * 6 + 4)
   have e5 := (hown.cellAt (j * 6 + 5) (by omega)).trans hat.2.2.2.2.2
   have f5 := hown.frozenAt (j * 6 + 5)
   have st0 := (hown.stored (j * 6) (.int .i64 (k + 6 * j))).1
   have st1 := (st0.stored (j * 6 + 1) (.int .i64 (k + 6 * j + 1))).1
   have st2 := (st1.stored (j * 6 + 2) (.int .i64 (k + 6 * j + 1 + 1))).1
   have st3 := (st2.stored (j * 6 + 3) (.int .i64 (k + 6 * j + 1 + 1 + 1))).1
   have st4 := (st3.stored (j * 6 + 4) (.int .i64 (k + 6 * j + 1 + 1 + 1 + 1))).1
   have st5 := (st4.stored (j * 6 + 5) (.int .i64 (k + 6 * j + 1 + 1 + 1 + 1 + 1))).1
   rw [flatE_set _ _ _ _ _ _ _ j (by omega), midE_step k l j hlt] at st5
   have hch2 : Chg (fun g' => (Value.slice (some ⟨g, 0, none⟩) l.length cap).ownBlock = some g') w ((((((wr.setCell ⟨g, j * 6, none⟩ (.int .i64 (k + 6 * j))).setCell ⟨g, j * 6 + 1, none⟩ (.int .i64 (k + 6 * j + 1))).setCell ⟨g, j * 6 + 2, none⟩ (.int .i64 (k + 6 * j + 1 + 1))).setCell ⟨g, j * 6 + 3, none⟩ (.int .i64 (k + 6 * j + 1 + 1 + 1))).setCell ⟨g, j * 6 + 4, none⟩ (.int .i64 (k + 6 * j + 1 + 1 + 1 + 1))).setCell ⟨g, j * 6 + 5, none⟩ (.int .i64 (k + 6 * j + 1 + 1 + 1 + 1 + 1))) := ((((((hch.setAt g _ rfl _).setAt g _ rfl _).setAt g _ rfl _).setAt g _ rfl _).setAt g _ rfl _).setAt g _ rfl _)
   generalize eT (midE k l j) j = x0 at *
   generalize eC (midE k l j) j = x1 at *
   generalize eS (midE k l j) j = x2 at *
   generalize eO (midE k l j) j = x3 at *
   generalize eK (midE k l j) j = x4 at *
   generalize eV (midE k l j) j = x5 at *
   have ST : Hid _ := And.intro st5 hch2
   clear st0 st1 st2 st3 st4 st5 hch2 hown hch hml hat OW
   have hb0 : 0 ≤ k + 6 * (j : Int) := by omega
   have hb1 : k + 6 * (j : Int) ≤ 10000000000 := by omega
   go_wp2
   go_roundw
   case rel => exact ⟨j + 1, by omega, by go_num, by go_num, ST.out.1, ST.out.2⟩
   case measure => simp [intOf]; omega
  ·have hjl : j = l.length := by omega
   subst hjl
   go_wp2
   go_ret
   rw [midE_full] at hown
   exact ⟨rfl, hown, hch⟩

theorem heldEntryS_any (v : Value) (n : Nat) (k : Int) (w : World) (h : Row w v n (flatE (marksE k n))) (hn : n ≤ 67108864) (hk0 : 0 ≤ k) (hk1 : k ≤ 671088640) :
  Calls Tryz.prog 52 #[v, .int .i64 k] w fun e w' => e = .returned (.int .i64 (k + 6 * n)) ∧ w' = w := by
 have h' : Row w v (marksE k n).length (flatE (marksE k n)) := by rw [marksE_length]; exact h
 obtain ⟨a, b, off, cap, rfl, hcap, hmax, ha, h10, h11, h12, h13, h14, h15⟩ := h'.ents
 rw [marksE_length] at *
 unfold maxLen at hmax
 clear h h'
 go_enter Tryz.func52, Tryz.ntmps52
 go_wp2
 go_loop [1, 5] (fun kk i => ∃ j : Nat, j ≤ n ∧ i = .int .i64 j ∧ kk = .int .i64 (k + 6 * j)) (fun _ i => n - (intOf i).toNat)
 case atStart => exact ⟨0, Nat.zero_le _, rfl, by simp⟩
 case round =>
  obtain ⟨j, hj, rfl, rfl⟩ := hrel
  by_cases hlt : j < n
  ·have hal := ha (by omega)
   subst hal
   have d0 : w.cell? ⟨b, off + j * 6, none⟩ = some (.int .i64 (k + 6 * j)) := by rw [h10 j hlt, (marksE_at k n j hlt).1]
   have d1 : w.cell? ⟨b, off + j * 6 + 1, none⟩ = some (.int .i64 (k + 6 * j + 1)) := by rw [h11 j hlt, (marksE_at k n j hlt).2.1]
   have d2 : w.cell? ⟨b, off + j * 6 + 2, none⟩ = some (.int .i64 (k + 6 * j + 1 + 1)) := by rw [h12 j hlt, (marksE_at k n j hlt).2.2.1]
   have d3 : w.cell? ⟨b, off + j * 6 + 3, none⟩ = some (.int .i64 (k + 6 * j + 1 + 1 + 1)) := by rw [h13 j hlt, (marksE_at k n j hlt).2.2.2.1]
   have d4 : w.cell? ⟨b, off + j * 6 + 4, none⟩ = some (.int .i64 (k + 6 * j + 1 + 1 + 1 + 1)) := by rw [h14 j hlt, (marksE_at k n j hlt).2.2.2.2.1]
   have d5 : w.cell? ⟨b, off + j * 6 + 5, none⟩ = some (.int .i64 (k + 6 * j + 1 + 1 + 1 + 1 + 1)) := by rw [h15 j hlt, (marksE_at k n j hlt).2.2.2.2.2]
   clear h10 h11 h12 h13 h14 h15
   have hb0 : 0 ≤ k + 6 * (j : Int) := by omega
   have hb1 : k + 6 * (j : Int) ≤ 10000000000 := by omega
   go_wp2
   go_round
   case rel => exact ⟨j + 1, by omega, by go_num, by go_num⟩
   case measure => simp [intOf]; omega
  ·have hjl : j = n := by omega
   subst hjl
   go_wp2
   go_ret
   exact ⟨rfl, rfl⟩
end
section
open Go.RowKit

theorem markDoneS_nil (a : Option Addr) (q : Nat) (k : Int) (w : World) : Calls Tryz.prog 78 #[.slice a 0 q, .int .i64 k] w fun e w' => e = .returned (.int .i64 k) ∧ w' = w := by
 go_enter Tryz.func78, Tryz.ntmps78
 go_wp2
 go_loop [1, 5] (fun kk i => kk = .int .i64 k ∧ i = .int .i64 0) (fun _ _ => 0)
 case atStart => exact ⟨rfl, rfl⟩
 case round =>
  obtain ⟨rfl, rfl⟩ := hrel
  go_wp2
  go_ret
  exact ⟨rfl, rfl⟩
theorem markBoolS_nil (a : Option Addr) (q : Nat) (k : Int) (w : World) : Calls Tryz.prog 38 #[.slice a 0 q, .int .i64 k] w fun e w' => e = .returned (.int .i64 k) ∧ w' = w := by
 go_enter Tryz.func38, Tryz.ntmps38
 go_wp2
 go_loop [1, 5] (fun kk i => kk = .int .i64 k ∧ i = .int .i64 0) (fun _ _ => 0)
 case atStart => exact ⟨rfl, rfl⟩
 case round =>
  obtain ⟨rfl, rfl⟩ := hrel
  go_wp2
  go_ret
  exact ⟨rfl, rfl⟩
theorem markEntryS_nil (a : Option Addr) (q : Nat) (k : Int) (w : World) : Calls Tryz.prog 51 #[.slice a 0 q, .int .i64 k] w fun e w' => e = .returned (.int .i64 k) ∧ w' = w := by
 go_enter Tryz.func51, Tryz.ntmps51
 go_wp2
 go_loop [1, 5] (fun kk i => kk = .int .i64 k ∧ i = .int .i64 0) (fun _ _ => 0)
 case atStart => exact ⟨rfl, rfl⟩
 case round =>
  obtain ⟨rfl, rfl⟩ := hrel
  go_wp2
  go_ret
  exact ⟨rfl, rfl⟩
theorem markDoneS_g (base : Nat) (v : Value) (l : DL) (k : Int) (w : World) (h : OwnE w base 126 4 v l.length (flatD l)) (hn : l.length ≤ 67108864) (hk0 : 0 ≤ k) (hk1 : k ≤ 671088640) :
  Calls Tryz.prog 78 #[v, .int .i64 k] w fun e w' => e = .returned (.int .i64 (k + 4 * l.length)) ∧ OwnE w' base 126 4 v l.length (flatD (marksD k l.length)) ∧ Chg (fun g => wrB v g) w w' := by
 rcases h with h | ⟨h0, h1, g, rfl⟩
 ·obtain ⟨a, cap, hv⟩ := owns_val h
  subst hv
  by_cases hc : 0 < l.length
  ·refine (markDoneS_any _ l k w (owns_mono h (Nat.zero_le _)) (by omega) hk0 (by omega)).mono ?_
   rintro e w' ⟨rfl, o, c⟩
   have hb : ∀ g, (Value.slice a l.length cap).ownBlock = some g → wrB (.slice a l.length cap) g := fun g hg => by
    obtain ⟨_, ⟨e, e2⟩ | ⟨g', cap', cur, e, _, _, hle, _⟩⟩ := h
    ·omega
    ·simp at e
     obtain ⟨rfl, rfl⟩ := e
     simp [Value.ownBlock] at hg
     subst hg
     exact ⟨_, _, rfl, by omega⟩
   refine ⟨rfl, .inl ?_, c.mono (fun g _ hg => hb g hg)⟩
   obtain ⟨hl, h1 | ⟨g, cap', cur, e, hg, hh, hn', hcap, hsz, ht⟩⟩ := o
   ·exact ⟨hl, .inl h1⟩
   ·exact ⟨hl, .inr ⟨g, cap', cur, e, (h.lt g (by rw [e]; rfl)).1, hh, hn', hcap, hsz, ht⟩⟩
  ·have hl : l = [] := List.length_eq_zero_iff.1 (by omega)
   subst hl
   refine (markDoneS_nil a cap k w).mono ?_
   rintro e w' ⟨rfl, rfl⟩
   exact ⟨by simp, .inl h, Chg.refl _ _⟩
 ·have hl : l = [] := List.length_eq_zero_iff.1 h0
  subst hl
  refine (markDoneS_nil _ 0 k w).mono ?_
  rintro e w' ⟨rfl, rfl⟩
  exact ⟨by simp, .inr ⟨rfl, rfl, g, rfl⟩, Chg.refl _ _⟩
theorem markBoolS_g (base : Nat) (v : Value) (l : List Bool) (k : Int) (w : World) (h : OwnE w base 4 1 v l.length (flatL l)) (hn : l.length ≤ 67108864) (hk0 : 0 ≤ k) (hk1 : k ≤ 671088640) :
  Calls Tryz.prog 38 #[v, .int .i64 k] w fun e w' => e = .returned (.int .i64 (k + l.length)) ∧ OwnE w' base 4 1 v l.length (flatL (marksL k l.length)) ∧ Chg (fun g => wrB v g) w w' := by
 rcases h with h | ⟨h0, h1, g, rfl⟩
 ·obtain ⟨a, cap, hv⟩ := owns_val h
  subst hv
  by_cases hc : 0 < l.length
  ·refine (markBoolS_m _ l k w (owns_mono h (Nat.zero_le _)) (by omega) hk0 (by omega)).mono ?_
   rintro e w' ⟨rfl, o, c⟩
   have hb : ∀ g, (Value.slice a l.length cap).ownBlock = some g → wrB (.slice a l.length cap) g := fun g hg => by
    obtain ⟨_, ⟨e, e2⟩ | ⟨g', cap', cur, e, _, _, hle, _⟩⟩ := h
    ·omega
    ·simp at e
     obtain ⟨rfl, rfl⟩ := e
     simp [Value.ownBlock] at hg
     subst hg
     exact ⟨_, _, rfl, by omega⟩
   refine ⟨rfl, .inl ?_, c.mono (fun g _ hg => hb g hg)⟩
   obtain ⟨hl, h1 | ⟨g, cap', cur, e, hg, hh, hn', hcap, hsz, ht⟩⟩ := o
   ·exact ⟨hl, .inl h1⟩
   ·exact ⟨hl, .inr ⟨g, cap', cur, e, (h.lt g (by rw [e]; rfl)).1, hh, hn', hcap, hsz, ht⟩⟩
  ·have hl : l = [] := List.length_eq_zero_iff.1 (by omega)
   subst hl
   refine (markBoolS_nil a cap k w).mono ?_
   rintro e w' ⟨rfl, rfl⟩
   exact ⟨by simp, .inl h, Chg.refl _ _⟩
 ·have hl : l = [] := List.length_eq_zero_iff.1 h0
  subst hl
  refine (markBoolS_nil _ 0 k w).mono ?_
  rintro e w' ⟨rfl, rfl⟩
  exact ⟨by simp, .inr ⟨rfl, rfl, g, rfl⟩, Chg.refl _ _⟩
theorem markEntryS_g (base : Nat) (v : Value) (l : EL) (k : Int) (w : World) (h : OwnE w base 113 6 v l.length (flatE l)) (hn : l.length ≤ 67108864) (hk0 : 0 ≤ k) (hk1 : k ≤ 671088640) :
  Calls Tryz.prog 51 #[v, .int .i64 k] w fun e w' => e = .returned (.int .i64 (k + 6 * l.length)) ∧ OwnE w' base 113 6 v l.length (flatE (marksE k l.length)) ∧ Chg (fun g => wrB v g) w w' := by
 rcases h with h | ⟨h0, h1, g, rfl⟩
 ·obtain ⟨a, cap, hv⟩ := owns_val h
  subst hv
  by_cases hc : 0 < l.length
  ·refine (markEntryS_any _ l k w (owns_mono h (Nat.zero_le _)) (by omega) hk0 (by omega)).mono ?_
   rintro e w' ⟨rfl, o, c⟩
   have hb : ∀ g, (Value.slice a l.length cap).ownBlock = some g → wrB (.slice a l.length cap) g := fun g hg => by
    obtain ⟨_, ⟨e, e2⟩ | ⟨g', cap', cur, e, _, _, hle, _⟩⟩ := h
    ·omega
    ·simp at e
     obtain ⟨rfl, rfl⟩ := e
     simp [Value.ownBlock] at hg
     subst hg
     exact ⟨_, _, rfl, by omega⟩
   refine ⟨rfl, .inl ?_, c.mono (fun g _ hg => hb g hg)⟩
   obtain ⟨hl, h1 | ⟨g, cap', cur, e, hg, hh, hn', hcap, hsz, ht⟩⟩ := o
   ·exact ⟨hl, .inl h1⟩
   ·exact ⟨hl, .inr ⟨g, cap', cur, e, (h.lt g (by rw [e]; rfl)).1, hh, hn', hcap, hsz, ht⟩⟩
  ·have hl : l = [] := List.length_eq_zero_iff.1 (by omega)
   subst hl
   refine (markEntryS_nil a cap k w).mono ?_
   rintro e w' ⟨rfl, rfl⟩
   exact ⟨by simp, .inl h, Chg.refl _ _⟩
 ·have hl : l = [] := List.length_eq_zero_iff.1 h0
  subst hl
  refine (markEntryS_nil _ 0 k w).mono ?_
  rintro e w' ⟨rfl, rfl⟩
  exact ⟨by simp, .inr ⟨rfl, rfl, g, rfl⟩, Chg.refl _ _⟩
end
section
open Go.RowKit

theorem tk {P : Program} {ops : Array Oper} {Q : Exit → Act → World → Prop} {md : Region.Mode} {S : World → Prop} (i : Nat) {oi : Oper} {v : Value} {fuel : Nat} {listed : Array Bool} {a : Act} {w : World} (hi : ops[i]? = some oi)
  (hc : (Region.noSelect ops && Region.free md ops listed i && (Region.ready md ops listed).contains i) = true)
  (hQ : ∀ c a w, Q (.panic c) (a.put oi.dst v) w → Q (.panic c) a w) (hy : YieldsIf P ops S oi v a) (hS : S w)
  (h : wpAnyH P md ops Q S fuel (listed.setIfInBounds i true) (a.put oi.dst v) w) : wpAnyH P md ops Q S (fuel + 1) listed a w := by
 simp only [Bool.and_eq_true] at hc
 exact wpAnyH_take hi hc.1.1 hc.1.2 hc.2 hQ hy hS h
theorem sA {α : Type} (l : List α) (i : Nat) (x : α) : l.toArray.setIfInBounds i x = (l.set i x).toArray := List.setIfInBounds_toArray ..
theorem sB {α : Type} (a : α) (l : List α) (x : α) : (a :: l).set 0 x = x :: l := List.set_cons_zero
theorem sC {α : Type} (a : α) (l : List α) (n : Nat) (x : α) : (a :: l).set (n + 1) x = a :: l.set n x := List.set_cons_succ

def LastQ (P : Program) (st : Oper) (Q : Exit → Act → World → Prop) : Exit → Act → World → Prop
 | .normal, a, w => st.wp P a w (Q .normal) Q
 | e, a, w => Q e a w

theorem upon_last {P : Program} {o st : Oper} {a : Act} {K : Act → World → Prop} {Q : Exit → Act → World → Prop} {r : Result Next} (h : o.upon P a K (LastQ P st Q) r) : o.upon P a K Q r := by
 cases r with
 | ok n w' =>
  cases n <;> simp only [Oper.upon] at h ⊢
  case value v => exact h
  case skip => exact h
  case defer d => exact h
  case row row args => exact h
  case enter f args =>
   refine Calls.mono h fun e w'' he => ?_
   cases e with
   | returned u => exact he
   | panicked c => exact he
   | outgrown => obtain ⟨a, w, h⟩ := he; exact ⟨a, w, h⟩
 | halt x w' =>
  cases x <;> simp only [Oper.upon] at h ⊢
  case panic u => exact h
theorem wpOp_last {P : Program} {ops ops' : Array Oper} {st o : Oper} {i : Nat} {a : Act} {w : World} {K : Act → World → Prop} {Q : Exit → Act → World → Prop} (ho : ops[i]? = some o) (ho' : ops'[i]? = some o) (hg : o.guard = none)
  (h : wpOp P ops (LastQ P st Q) i K a w) : wpOp P ops' Q i K a w := by
 unfold wpOp at *
 simp only [ho, ho'] at *
 have hw : ∀ y, Region.wanted o y = true := fun y => by simp [Region.wanted, hg]
 rw [hw] at h ⊢
 simp only [if_true] at *
 rcases h with h | ⟨h1, a', w', h2⟩
 ·exact .inl (upon_last h)
 ·exact .inr ⟨h1, a', w', h2⟩

def lastB (l : List Oper) (st : Oper) : Bool :=
 (List.range l.length).all (fun i => match l[i]? with
  | some o => o.guard.isNone && o.after.toList.all fun e => decide (e.on < i)
  | none => false) && (st.guard.isNone && ((List.range l.length).all (fun i => st.after.toList.any fun e => Region.binds .any e && decide (e.on = i)) && st.after.toList.all fun e => decide (e.on < l.length)))

variable {P : Program} {l : List Oper} {st : Oper} {Q : Exit → Act → World → Prop}

theorem lastB_parts (h : lastB l st = true) : (∀ (i : Nat) (o : Oper), l[i]? = some o → o.guard = none ∧ ∀ e ∈ o.after, e.on < i) ∧ st.guard = none ∧ (∀ i, i < l.length → ∃ e ∈ st.after, Region.binds .any e = true ∧ e.on = i) ∧ ∀ e ∈ st.after, e.on < l.length := by
 simp only [lastB, Bool.and_eq_true, List.all_eq_true, List.mem_range, List.any_eq_true, decide_eq_true_eq] at h
 obtain ⟨h1, h2, h3, h4⟩ := h
 refine ⟨fun i o ho => ?_, by simpa using h2, fun i hi => ?_, fun e he => h4 e (by simpa using he)⟩
 ·have := h1 i (List.getElem?_eq_some_iff.1 ho).1
  rw [ho] at this
  simp only [Bool.and_eq_true, List.all_eq_true, decide_eq_true_eq] at this
  exact ⟨by simpa using this.1, fun e he => this.2 e (by simpa using he)⟩
 ·obtain ⟨e, he, hb, hon⟩ := h3 i hi
  exact ⟨e, by simpa using he, hb, hon⟩

theorem all_listed (h : ∀ (i : Nat) (o : Oper), l[i]? = some o → o.guard = none ∧ ∀ e ∈ o.after, e.on < i) {listed : Array Bool} (hs : listed.size = l.length) (hr : Region.ready .any l.toArray listed = []) : ∀ i, i < l.length → listed.getD i false = true := by
 intro i
 induction i using Nat.strongRecOn with
 | ind i ih =>
  intro hi
  rcases hb : listed.getD i false with _ | _
  ·exfalso
   have hm : i ∈ Region.ready .any l.toArray listed := by
    rw [mem_ready]
    refine ⟨?_, l[i], by simp [hi], fun e he _ => ih e.on ((h i l[i] (by simp [hi])).2 e he) (Nat.lt_trans ((h i l[i] (by simp [hi])).2 e he) hi)⟩
    have : i < listed.size := by omega
    simp [this] at hb ⊢
    exact hb
   rw [hr] at hm
   cases hm
  ·rfl

theorem getD_push {listed : Array Bool} {i : Nat} (d : Bool) (hi : i < listed.size) : (listed.push false).getD i d = listed.getD i d := by
 simp [Array.getElem?_push, Nat.ne_of_lt hi]
theorem push_set {listed : Array Bool} {i : Nat} (hi : i < listed.size) : (listed.push false).setIfInBounds i true = (listed.setIfInBounds i true).push false := by
 apply Array.ext'
 simp only [Array.toList_setIfInBounds, Array.toList_push]
 rw [List.set_append_left _ _ (by simpa using hi)]

theorem ready_push (h : lastB l st = true) {listed : Array Bool} (hs : listed.size = l.length) {i : Nat} (hi : i < l.length) (hm : i ∈ Region.ready .any (l ++ [st]).toArray (listed.push false)) : i ∈ Region.ready .any l.toArray listed := by
 rw [mem_ready] at *
 obtain ⟨h0, o, ho, hall⟩ := hm
 rw [getD_push true (by omega)] at h0
 have ho' : l[i]? = some o := by
  rw [List.getElem?_toArray, List.getElem?_append_left hi] at ho
  exact ho
 refine ⟨h0, o, by simpa using ho', fun e he hb => ?_⟩
 have := hall e he hb
 rw [getD_push false (by have := ((lastB_parts h).1 i o ho').2 e he; omega)] at this
 exact this

theorem wpAny_last (h : lastB l st = true) : ∀ (fuel : Nat) (listed : Array Bool) (a : Act) (w : World), listed.size = l.length → wpAny P .any l.toArray (LastQ P st Q) fuel listed a w → wpAny P .any (l ++ [st]).toArray Q (fuel + 1) (listed.push false) a w := by
 obtain ⟨p1, p2, p3, p4⟩ := lastB_parts h
 intro fuel
 induction fuel with
 | zero =>
  intro listed a w hs hw
  have hall := all_listed p1 hs hw.1
  refine ⟨fun h0 => ?_, fun i hi => ?_⟩
  ·exfalso
   have hm : l.length ∈ Region.ready .any (l ++ [st]).toArray (listed.push false) := by
    rw [mem_ready]
    refine ⟨by simp [← hs], st, by simp, fun e he _ => ?_⟩
    rw [getD_push false (by have := p4 e he; omega)]
    exact hall _ (p4 e he)
   rw [h0] at hm
   cases hm
  ·by_cases hil : i < l.length
   ·have := ready_push h hs hil hi
    rw [hw.1] at this
    cases this
   ·have hin : i = l.length := by
     obtain ⟨_, o, ho, _⟩ := mem_ready.1 hi
     have := (Array.getElem?_eq_some_iff.1 ho).1
     simp at this
     omega
    subst hin
    have hq : st.wp P a w (Q .normal) Q := hw.2
    unfold wpOp
    have hst : (l ++ [st]).toArray[l.length]? = some st := by simp
    simp only [hst]
    rw [if_pos (by simp [Region.wanted, p2])]
    refine .inl (Oper.wp_mono (fun a' w' hq' => ?_) hq)
    refine ⟨List.filter_eq_nil_iff.2 fun j hj => ?_, hq'⟩
    have hj' : j < l.length + 1 := by simpa using hj
    have : ((listed.push false).setIfInBounds l.length true).getD j true = true := by
     by_cases hjl : j = l.length
     ·subst hjl; simp
     ·rw [getD_set_ne true (Ne.symm hjl), getD_push true (by omega)]
      have := hall j (by omega)
      have hlt : j < listed.size := by omega
      simp [hlt] at this ⊢
      exact this
    rw [this]
    simp
 | succ fuel ih =>
  intro listed a w hs hw
  refine ⟨fun h0 => ?_, fun i hi => ?_⟩
  ·exfalso
   have hr : Region.ready .any l.toArray listed = [] := by
    rw [List.eq_nil_iff_forall_not_mem]
    intro i hi
    have hil : i < l.length := by
     obtain ⟨_, o, ho, _⟩ := mem_ready.1 hi
     have := (Array.getElem?_eq_some_iff.1 ho).1
     simpa using this
    have hm : i ∈ Region.ready .any (l ++ [st]).toArray (listed.push false) := by
     rw [mem_ready] at *
     obtain ⟨h1, o, ho, hall⟩ := hi
     have ho' : l[i]? = some o := by simpa using ho
     refine ⟨by rw [getD_push true (by omega)]; exact h1, o, by rw [List.getElem?_toArray, List.getElem?_append_left hil]; exact ho', fun e he hb => ?_⟩
     rw [getD_push false (by have := (p1 i o ho').2 e he; omega)]
     exact hall e he hb
    rw [h0] at hm
    cases hm
   have hall := all_listed p1 hs hr
   have hm : l.length ∈ Region.ready .any (l ++ [st]).toArray (listed.push false) := by
    rw [mem_ready]
    refine ⟨by simp [← hs], st, by simp, fun e he _ => ?_⟩
    rw [getD_push false (by have := p4 e he; omega)]
    exact hall _ (p4 e he)
   rw [h0] at hm
   cases hm
  ·by_cases hil : i < l.length
   ·have hm := ready_push h hs hil hi
    have h1 := hw.2 i hm
    have ho : l.toArray[i]? = some l[i] := by simp [hil]
    have ho' : (l ++ [st]).toArray[i]? = some l[i] := by rw [List.getElem?_toArray, List.getElem?_append_left hil]; simp [hil]
    have h2 := wpOp_last ho ho' (p1 i l[i] (by simp [hil])).1 h1
    refine wpOp_mono (fun a' w' h3 => ?_) h2
    rw [push_set (by omega)]
    exact ih _ a' w' (by simpa using hs) h3
   ·have hin : i = l.length := by
     obtain ⟨_, o, ho, _⟩ := mem_ready.1 hi
     have := (Array.getElem?_eq_some_iff.1 ho).1
     simp at this
     omega
    subst hin
    have hall : ∀ j, j < l.length → listed.getD j false = true := by
     intro j hj
     obtain ⟨e, he, hb, hon⟩ := p3 j hj
     obtain ⟨_, o, ho, hx⟩ := mem_ready.1 hi
     have : o = st := by simpa using ho.symm
     subst this
     have := hx e he hb
     rw [getD_push false (by have := p4 e he; omega), hon] at this
     exact this
    have hr : Region.ready .any l.toArray listed = [] := by
     rw [List.eq_nil_iff_forall_not_mem]
     intro j hj
     obtain ⟨h1, o, ho, _⟩ := mem_ready.1 hj
     have hjl : j < l.length := by
      have := (Array.getElem?_eq_some_iff.1 ho).1
      simpa using this
     have := hall j hjl
     have hlt : j < listed.size := by omega
     simp [hlt] at this h1
     rw [h1] at this
     cases this
    have hq : st.wp P a w (Q .normal) Q := hw.1 hr
    unfold wpOp
    have hst : (l ++ [st]).toArray[l.length]? = some st := by simp
    simp only [hst]
    rw [if_pos (by simp [Region.wanted, p2])]
    refine .inl (Oper.wp_mono (fun a' w' hq' => ?_) hq)
    refine wpAny_done (List.filter_eq_nil_iff.2 fun j hj => ?_) hq' _
    have hj' : j < l.length + 1 := by simpa using hj
    have : ((listed.push false).setIfInBounds l.length true).getD j true = true := by
     by_cases hjl : j = l.length
     ·subst hjl; simp [hs]
     ·rw [getD_set_ne true (Ne.symm hjl), getD_push true (by omega)]
      have := hall j (by omega)
      have hlt : j < listed.size := by omega
      simp [hlt] at this ⊢
      exact this
    rw [this]
    simp

theorem wp_region_last {id : Nat} {ops : Array Oper} {a : Act} {w : World} (S : World → Prop) (l : List Oper) (st : Oper) (hops : ops = (l ++ [st]).toArray) (hm : P.follows .mixedOrders = true) (h : lastB l st = true)
  (H : wpAnyH P .any l.toArray (LastQ P st Q) S l.length (Array.replicate l.length false) a w.drew) : (Code.region id ops true).wp P Q a w := by
 subst hops
 refine wp_region_any hm ?_
 have h1 := wpAny_last (Q := Q) h l.length (Array.replicate l.length false) a w.drew (by simp) (wpAny_of_held _ _ _ _ H)
 have e : (Array.replicate l.length false).push false = Array.replicate (l ++ [st]).toArray.size false := by
  apply Array.ext'
  simp [← List.replicate_succ']
 rw [e] at h1
 have e2 : (l ++ [st]).toArray.size = l.length + 1 := by simp
 rw [e2] at h1 ⊢
 exact h1
end
section
open Go.RowKit

theorem al1 (w : World) (o : Obj) : Below w.heap.size w (w.alloc o) := (Below.refl _ _).alloc (Nat.le_refl _) o
theorem al2 (w : World) (o o' : Obj) : Below w.heap.size w ((w.alloc o).alloc o') := (al1 w o).alloc (by simp) o'
abbrev set2 (u : World) (L : Nat) (t0 t1 : Value) : World := (u.setCell ⟨L, 0, none⟩ t0).setCell ⟨L, 1, none⟩ t1
theorem chg_set1 (u : World) (L j : Nat) (t : Value) : Chg (fun g => g = L) u (u.setCell ⟨L, j, none⟩ t) := (Chg.refl (fun g => g = L) u).setAt L j rfl t
theorem OwnE.drew {w : World} {base e size n : Nat} {v : Value} {xs : List Value} (h : OwnE w base e size v n xs) : OwnE w.drew base e size v n xs := h.below (Below.refl _ _).drew
theorem OwnE.alloc {w : World} {base e size n : Nat} {v : Value} {xs : List Value} (h : OwnE w base e size v n xs) (o : Obj) : OwnE (w.alloc o) base e size v n xs := h.below (al1 w o)
theorem flatI_one (l : List Int) : ∀ y ∈ flatI l, y.oneCell' = true := by
 intro y hy
 simp [flatI] at hy
 obtain ⟨a, _, rfl⟩ := hy
 rfl
end
section
open Go.RowKit
end
end Go.Proofs.YtmdajbbpigbdcaaGreat
