/-
  Marks in rows of their own, empty ones too: what was done last, truths, entries.
  The laws' own functions that write marks into a list of messages, and look for them.
  Marks in lists of pairs, at greater numbers.
  Strong contracts of the laws' marks: numbers; lists that are empty; trees whose kids are zero.
  The contract of the model's l4Put.
-/
import Derived.Test.YtkcaelfkcepdkaaGreatOfSend13
import Derived.Test.YtkcaelfkcepdkaaGreatOfSend9
import Derived.Test.YtkcaelfkcepdkaaGreatOfSend2
import Derived.Test.YtkcaelfkcepdkaaGreatOfSend1
import Derived.Test.YtkcaelfkcepdkaaGreatOfSend3
import Derived.Deep.DeepCutAuto
namespace Go.Proofs.YtkcaelfkcepdkaaGreat
set_option maxRecDepth 100000
set_option maxHeartbeats 8000000
section
open Go.RowKit

theorem markDoneS_nil (a : Option Addr) (q : Nat) (k : Int) (w : World) : Calls Tryz.prog 43 #[.slice a 0 q, .int .i64 k] w fun e w' => e = .returned (.int .i64 k) ∧ w' = w := by
 go_enter Tryz.func43, Tryz.ntmps43
 go_wp2
 go_loop [1, 5] (fun kk i => kk = .int .i64 k ∧ i = .int .i64 0) (fun _ _ => 0)
 case atStart => exact ⟨rfl, rfl⟩
 case round =>
  obtain ⟨rfl, rfl⟩ := hrel
  go_wp2
  go_ret
  exact ⟨rfl, rfl⟩
theorem markBoolS_nil (a : Option Addr) (q : Nat) (k : Int) (w : World) : Calls Tryz.prog 73 #[.slice a 0 q, .int .i64 k] w fun e w' => e = .returned (.int .i64 k) ∧ w' = w := by
 go_enter Tryz.func73, Tryz.ntmps73
 go_wp2
 go_loop [1, 5] (fun kk i => kk = .int .i64 k ∧ i = .int .i64 0) (fun _ _ => 0)
 case atStart => exact ⟨rfl, rfl⟩
 case round =>
  obtain ⟨rfl, rfl⟩ := hrel
  go_wp2
  go_ret
  exact ⟨rfl, rfl⟩
theorem markEntryS_nil (a : Option Addr) (q : Nat) (k : Int) (w : World) : Calls Tryz.prog 45 #[.slice a 0 q, .int .i64 k] w fun e w' => e = .returned (.int .i64 k) ∧ w' = w := by
 go_enter Tryz.func45, Tryz.ntmps45
 go_wp2
 go_loop [1, 5] (fun kk i => kk = .int .i64 k ∧ i = .int .i64 0) (fun _ _ => 0)
 case atStart => exact ⟨rfl, rfl⟩
 case round =>
  obtain ⟨rfl, rfl⟩ := hrel
  go_wp2
  go_ret
  exact ⟨rfl, rfl⟩
theorem markDoneS_g (base : Nat) (v : Value) (l : DL) (k : Int) (w : World) (h : OwnE w base 141 4 v l.length (flatD l)) (hn : l.length ≤ 67108864) (hk0 : 0 ≤ k) (hk1 : k ≤ 671088640) :
  Calls Tryz.prog 43 #[v, .int .i64 k] w fun e w' => e = .returned (.int .i64 (k + 4 * l.length)) ∧ OwnE w' base 141 4 v l.length (flatD (marksD k l.length)) ∧ Chg (fun g => wrB v g) w w' := by
 rcases h with h | ⟨h0, h1, g, rfl⟩
 ·obtain ⟨a, cap, hv⟩ := owns_val h
  subst hv
  by_cases hc : 0 < l.length
  ·refine (markDoneS_any _ l k w (owns_mono h (Nat.zero_le _)) (by omega) hk0 (by omega)).mono ?_
   rintro e w' ⟨rfl, o, c⟩
   have hb : ∀ g, (Value.slice a l.length cap).ownBlock = some g → wrB (.slice a l.length cap) g := fun g hg => by
    obtain ⟨_, ⟨e, e2⟩ | ⟨g', cap', cur, e, _, _, hle, _⟩⟩ := h
    ·omega
    ·simp at e
     obtain ⟨rfl, rfl⟩ := e
     simp [Value.ownBlock] at hg
     subst hg
     exact ⟨_, _, rfl, by omega⟩
   refine ⟨rfl, .inl ?_, c.mono (fun g _ hg => hb g hg)⟩
   obtain ⟨hl, h1 | ⟨g, cap', cur, e, hg, hh, hn', hcap, hsz, ht⟩⟩ := o
   ·exact ⟨hl, .inl h1⟩
   ·exact ⟨hl, .inr ⟨g, cap', cur, e, (h.lt g (by rw [e]; rfl)).1, hh, hn', hcap, hsz, ht⟩⟩
  ·have hl : l = [] := List.length_eq_zero_iff.1 (by omega)
   subst hl
   refine (markDoneS_nil a cap k w).mono ?_
   rintro e w' ⟨rfl, rfl⟩
   exact ⟨by simp, .inl h, Chg.refl _ _⟩
 ·have hl : l = [] := List.length_eq_zero_iff.1 h0
  subst hl
  refine (markDoneS_nil _ 0 k w).mono ?_
  rintro e w' ⟨rfl, rfl⟩
  exact ⟨by simp, .inr ⟨rfl, rfl, g, rfl⟩, Chg.refl _ _⟩
theorem markBoolS_g (base : Nat) (v : Value) (l : List Bool) (k : Int) (w : World) (h : OwnE w base 4 1 v l.length (flatL l)) (hn : l.length ≤ 67108864) (hk0 : 0 ≤ k) (hk1 : k ≤ 671088640) :
  Calls Tryz.prog 73 #[v, .int .i64 k] w fun e w' => e = .returned (.int .i64 (k + l.length)) ∧ OwnE w' base 4 1 v l.length (flatL (marksL k l.length)) ∧ Chg (fun g => wrB v g) w w' := by
 rcases h with h | ⟨h0, h1, g, rfl⟩
 ·obtain ⟨a, cap, hv⟩ := owns_val h
  subst hv
  by_cases hc : 0 < l.length
  ·refine (markBoolS_m _ l k w (owns_mono h (Nat.zero_le _)) (by omega) hk0 (by omega)).mono ?_
   rintro e w' ⟨rfl, o, c⟩
   have hb : ∀ g, (Value.slice a l.length cap).ownBlock = some g → wrB (.slice a l.length cap) g := fun g hg => by
    obtain ⟨_, ⟨e, e2⟩ | ⟨g', cap', cur, e, _, _, hle, _⟩⟩ := h
    ·omega
    ·simp at e
     obtain ⟨rfl, rfl⟩ := e
     simp [Value.ownBlock] at hg
     subst hg
     exact ⟨_, _, rfl, by omega⟩
   refine ⟨rfl, .inl ?_, c.mono (fun g _ hg => hb g hg)⟩
   obtain ⟨hl, h1 | ⟨g, cap', cur, e, hg, hh, hn', hcap, hsz, ht⟩⟩ := o
   ·exact ⟨hl, .inl h1⟩
   ·exact ⟨hl, .inr ⟨g, cap', cur, e, (h.lt g (by rw [e]; rfl)).1, hh, hn', hcap, hsz, ht⟩⟩
  ·have hl : l = [] := List.length_eq_zero_iff.1 (by omega)
   subst hl
   refine (markBoolS_nil a cap k w).mono ?_
   rintro e w' ⟨rfl, rfl⟩
   exact ⟨by simp, .inl h, Chg.refl _ _⟩
 ·have hl : l = [] := List.length_eq_zero_iff.1 h0
  subst hl
  refine (markBoolS_nil _ 0 k w).mono ?_
  rintro e w' ⟨rfl, rfl⟩
  exact ⟨by simp, .inr ⟨rfl, rfl, g, rfl⟩, Chg.refl _ _⟩
theorem markEntryS_g (base : Nat) (v : Value) (l : EL) (k : Int) (w : World) (h : OwnE w base 119 6 v l.length (flatE l)) (hn : l.length ≤ 67108864) (hk0 : 0 ≤ k) (hk1 : k ≤ 671088640) :
  Calls Tryz.prog 45 #[v, .int .i64 k] w fun e w' => e = .returned (.int .i64 (k + 6 * l.length)) ∧ OwnE w' base 119 6 v l.length (flatE (marksE k l.length)) ∧ Chg (fun g => wrB v g) w w' := by
 rcases h with h | ⟨h0, h1, g, rfl⟩
 ·obtain ⟨a, cap, hv⟩ := owns_val h
  subst hv
  by_cases hc : 0 < l.length
  ·refine (markEntryS_any _ l k w (owns_mono h (Nat.zero_le _)) (by omega) hk0 (by omega)).mono ?_
   rintro e w' ⟨rfl, o, c⟩
   have hb : ∀ g, (Value.slice a l.length cap).ownBlock = some g → wrB (.slice a l.length cap) g := fun g hg => by
    obtain ⟨_, ⟨e, e2⟩ | ⟨g', cap', cur, e, _, _, hle, _⟩⟩ := h
    ·omega
    ·simp at e
     obtain ⟨rfl, rfl⟩ := e
     simp [Value.ownBlock] at hg
     subst hg
     exact ⟨_, _, rfl, by omega⟩
   refine ⟨rfl, .inl ?_, c.mono (fun g _ hg => hb g hg)⟩
   obtain ⟨hl, h1 | ⟨g, cap', cur, e, hg, hh, hn', hcap, hsz, ht⟩⟩ := o
   ·exact ⟨hl, .inl h1⟩
   ·exact ⟨hl, .inr ⟨g, cap', cur, e, (h.lt g (by rw [e]; rfl)).1, hh, hn', hcap, hsz, ht⟩⟩
  ·have hl : l = [] := List.length_eq_zero_iff.1 (by omega)
   subst hl
   refine (markEntryS_nil a cap k w).mono ?_
   rintro e w' ⟨rfl, rfl⟩
   exact ⟨by simp, .inl h, Chg.refl _ _⟩
 ·have hl : l = [] := List.length_eq_zero_iff.1 h0
  subst hl
  refine (markEntryS_nil _ 0 k w).mono ?_
  rintro e w' ⟨rfl, rfl⟩
  exact ⟨by simp, .inr ⟨rfl, rfl, g, rfl⟩, Chg.refl _ _⟩
end
section
open Go.RowKit

def marksM (k : Int) (n : Nat) : ML := (List.range n).map fun (i : Nat) => (k + 3 * i, k + 3 * i + 1, k + 3 * i + 2)
theorem marksM_length (k : Int) (n : Nat) : (marksM k n).length = n := by simp [marksM]
theorem marksM_succ (k : Int) (n : Nat) : marksM k (n + 1) = marksM k n ++ [(k + 3 * n, k + 3 * n + 1, k + 3 * n + 2)] := by simp [marksM, List.range_succ]
theorem marksM_at (k : Int) (n i : Nat) (h : i < n) : mO (marksM k n) i = k + 3 * i ∧ mK (marksM k n) i = k + 3 * i + 1 ∧ mV (marksM k n) i = k + 3 * i + 2 := by
 simp [marksM, mO, mK, mV, List.getD, h]
def midM (k : Int) (l : ML) (i : Nat) : ML := marksM k i ++ l.drop i
theorem midM_length (k : Int) (l : ML) (i : Nat) (h : i ≤ l.length) : (midM k l i).length = l.length := by simp [midM, marksM_length]; omega
theorem midM_zero (k : Int) (l : ML) : midM k l 0 = l := by simp [midM, marksM]
theorem midM_full (k : Int) (l : ML) : midM k l l.length = marksM k l.length := by simp [midM]
theorem midM_step (k : Int) (l : ML) (i : Nat) (h : i < l.length) : (midM k l i).set i (k + 3 * i, k + 3 * i + 1, k + 3 * i + 2) = midM k l (i + 1) := by
 rw [midM, midM, marksM_succ, List.drop_eq_getElem_cons h, List.set_append_right _ _ (by rw [marksM_length]; omega), marksM_length, Nat.sub_self, List.set_cons_zero]
 simp

theorem owns_cap {w : World} {base e size n cap : Nat} {a : Option Addr} {xs : List Value} (h : w.ownsRow base e size (.slice a n cap) n xs) : cap ≤ maxLen := by
 obtain ⟨_, ⟨e, _⟩ | ⟨g, cap', cur, e, _, _, _, hc, _⟩⟩ := h
 ·simp at e; rw [e.2.2]; exact Nat.zero_le _
 ·simp at e; rw [e.2]; exact hc

theorem markMsgS_any (v : Value) (l : ML) (k : Int) (w : World) (h : w.ownsRow 0 115 3 v l.length (flatM l)) (hn : l.length ≤ 67108864) (hk0 : 0 ≤ k) (hk1 : k ≤ 67108864) :
  Calls Tryz.prog 49 #[v, .int .i64 k] w fun e w' => e = .returned (.int .i64 (k + 3 * l.length)) ∧ w'.ownsRow 0 115 3 v l.length (flatM (marksM k l.length)) ∧ Chg (fun g => v.ownBlock = some g) w w' := by
 obtain ⟨a, cap, hv⟩ := owns_val h
 have OW : Hid (w.ownsRow 0 115 3 v l.length (flatM l)) := h
 clear h
 rw [hv] at OW ⊢
 clear hv
 have hcap := owns_cap OW.out
 unfold maxLen at hcap
 go_enter Tryz.func49, Tryz.ntmps49
 go_wp2
 go_loopw [1, 5] (fun kk i wr => ∃ j : Nat, j ≤ l.length ∧ i = .int .i64 j ∧ kk = .int .i64 (k + 3 * j) ∧ wr.ownsRow 0 115 3 (.slice a l.length cap) l.length (flatM (midM k l j)) ∧ Chg (fun g => (Value.slice a l.length cap).ownBlock = some g) w wr)
  (fun _ i _ => l.length - (intOf i).toNat)
 case atStart => exact ⟨0, Nat.zero_le _, rfl, by simp, by rw [midM_zero]; exact OW.out, Chg.refl _ _⟩
 case round =>
  obtain ⟨j, hj, rfl, rfl, hown, hch⟩ := hrel
  by_cases hlt : j < l.length
  ·have hex : ∃ g, a = some ⟨g, 0, none⟩ := by
    obtain ⟨_, ⟨e, e2⟩ | ⟨g, cap', cur, e, _⟩⟩ := hown
    ·omega
    ·simp at e; exact ⟨g, e.1⟩
   obtain ⟨g, rfl⟩ := hex
   have hml : (midM k l j).length = l.length := midM_length k l j hj
   have hat := flatM_at (midM k l j) j (by omega)
   have e0 := (hown.cellAt (j * 3) (by omega)).trans hat.1
   have e1 := (hown.cellAt (j * 3 + 1) (by omega)).trans hat.2.1
   have e2 := (hown.cellAt (j * 3 + 2) (by omega)).trans hat.2.2
   have f0 := hown.frozenAt (j * 3)
   have f1 := hown.frozenAt (j * 3 + 1)
   have f2 := hown.frozenAt (j * 3 + 2)
   have st := (hown.stored (j * 3) (.int .i64 (k + 3 * j))).1
   have st2 := (st.stored (j * 3 + 1) (.int .i64 (k + 3 * j + 1))).1
   have st3 := (st2.stored (j * 3 + 2) (.int .i64 (k + 3 * j + 2))).1
   rw [flatM_set _ _ _ _ j (by omega), midM_step k l j hlt] at st3
   have hch2 : Chg (fun g' => (Value.slice (some ⟨g, 0, none⟩) l.length cap).ownBlock = some g') w (((wr.setCell ⟨g, j * 3, none⟩ (.int .i64 (k + 3 * j))).setCell ⟨g, j * 3 + 1, none⟩ (.int .i64 (k + 3 * j + 1))).setCell ⟨g, j * 3 + 2, none⟩ (.int .i64 (k + 3 * j + 2))) :=
    ((hch.setAt g _ rfl _).setAt g _ rfl _).setAt g _ rfl _
   generalize mO (midM k l j) j = x0 at *
   generalize mK (midM k l j) j = x1 at *
   generalize mV (midM k l j) j = x2 at *
   have ST : Hid _ := And.intro st3 hch2
   clear st st2 st3 hch2 hown hch hml hat OW
   have hb0 : 0 ≤ k + 3 * (j : Int) := by omega
   have hb1 : k + 3 * (j : Int) ≤ 10000000000 := by omega
   go_wp2
   go_roundw
   case rel => exact ⟨j + 1, by omega, by go_num, by go_num, by rw [show k + 3 * (j : Int) + 2 = k + 3 * (j : Int) + 1 + 1 by omega] at ST; exact ST.out.1, by rw [show k + 3 * (j : Int) + 2 = k + 3 * (j : Int) + 1 + 1 by omega] at ST; exact ST.out.2⟩
   case measure => simp [intOf]; omega
  ·have hjl : j = l.length := by omega
   subst hjl
   go_wp2
   go_ret
   rw [midM_full] at hown
   exact ⟨rfl, hown, hch⟩

theorem heldMsgS_any (v : Value) (n : Nat) (k : Int) (w : World) (h : Row w v n (flatM (marksM k n))) (hn : n ≤ 67108864) (hk0 : 0 ≤ k) (hk1 : k ≤ 67108864) :
  Calls Tryz.prog 94 #[v, .int .i64 k] w fun e w' => e = .returned (.int .i64 (k + 3 * n)) ∧ w' = w := by
 have h' : Row w v (marksM k n).length (flatM (marksM k n)) := by rw [marksM_length]; exact h
 obtain ⟨a, b, off, cap, rfl, hcap, hmax, ha, ho, hk, hv⟩ := h'.msgs
 rw [marksM_length] at *
 unfold maxLen at hmax
 clear h h'
 go_enter Tryz.func94, Tryz.ntmps94
 go_wp2
 go_loop [1, 5] (fun kk i => ∃ j : Nat, j ≤ n ∧ i = .int .i64 j ∧ kk = .int .i64 (k + 3 * j)) (fun _ i => n - (intOf i).toNat)
 case atStart => exact ⟨0, Nat.zero_le _, rfl, by simp⟩
 case round =>
  obtain ⟨j, hj, rfl, rfl⟩ := hrel
  by_cases hlt : j < n
  ·have hal := ha (by omega)
   subst hal
   have d0 : w.cell? ⟨b, off + j * 3, none⟩ = some (.int .i64 (k + 3 * j)) := by rw [ho j hlt, (marksM_at k n j hlt).1]
   have d1 : w.cell? ⟨b, off + j * 3 + 1, none⟩ = some (.int .i64 (k + 3 * j + 1)) := by rw [hk j hlt, (marksM_at k n j hlt).2.1]
   have d2 : w.cell? ⟨b, off + j * 3 + 2, none⟩ = some (.int .i64 (k + 3 * j + 1 + 1)) := by rw [hv j hlt, (marksM_at k n j hlt).2.2, show k + 3 * (j : Int) + 2 = k + 3 * (j : Int) + 1 + 1 by omega]
   clear ho hk hv
   have hb0 : 0 ≤ k + 3 * (j : Int) := by omega
   have hb1 : k + 3 * (j : Int) ≤ 10000000000 := by omega
   go_wp2
   go_round
   case rel => exact ⟨j + 1, by omega, by go_num, by go_num⟩
   case measure => simp [intOf]; omega
  ·have hjl : j = n := by omega
   subst hjl
   go_wp2
   go_ret
   exact ⟨rfl, rfl⟩
end
section
open Go.RowKit

theorem markPairS_l (v : Value) (l : List (Int × Int)) (k : Int) (w : World) (h : w.ownsRow 0 157 2 v l.length (flatP l)) (hn : l.length ≤ 67108864) (hk0 : 0 ≤ k) (hk1 : k ≤ 67108864) :
  Calls Tryz.prog 46 #[v, .int .i64 k] w fun e w' => e = .returned (.int .i64 (k + 2 * l.length)) ∧ w'.ownsRow 0 157 2 v l.length (flatP (marksP k l.length)) ∧ Chg (fun g => v.ownBlock = some g) w w' := by
 obtain ⟨a, cap, hv⟩ := owns_val h
 have hcap : cap ≤ maxLen := by
  obtain ⟨_, ⟨e, _⟩ | ⟨g, cap', cur, e, _, _, _, hc, _⟩⟩ := h
  ·rw [hv] at e; simp at e; rw [e.2.2]; exact Nat.zero_le _
  ·rw [hv] at e; simp at e; rw [e.2]; exact hc
 unfold maxLen at hcap
 have OW : Hid (w.ownsRow 0 157 2 v l.length (flatP l)) := h
 clear h
 rw [hv] at OW ⊢
 clear hv
 go_enter Tryz.func46, Tryz.ntmps46
 go_wp2
 go_loopw [1, 5] (fun kk i wr => ∃ j : Nat, j ≤ l.length ∧ i = .int .i64 j ∧ kk = .int .i64 (k + 2 * j) ∧ wr.ownsRow 0 157 2 (.slice a l.length cap) l.length (flatP (midP k l j)) ∧ Chg (fun g => (Value.slice a l.length cap).ownBlock = some g) w wr)
  (fun _ i _ => l.length - (intOf i).toNat)
 case atStart => exact ⟨0, Nat.zero_le _, rfl, by simp, by rw [midP_zero]; exact OW.out, Chg.refl _ _⟩
 case round =>
  obtain ⟨j, hj, rfl, rfl, hown, hch⟩ := hrel
  by_cases hlt : j < l.length
  ·have hex : ∃ g, a = some ⟨g, 0, none⟩ := by
    obtain ⟨_, ⟨e, e2⟩ | ⟨g, cap', cur, e, _⟩⟩ := hown
    ·omega
    ·simp at e; exact ⟨g, e.1⟩
   obtain ⟨g, rfl⟩ := hex
   have hml : (midP k l j).length = l.length := midP_length k l j hj
   have hat := flatP_at (midP k l j) j (by omega)
   have e0 := (hown.cellAt (j * 2) (by omega)).trans hat.1
   have e1 := (hown.cellAt (j * 2 + 1) (by omega)).trans hat.2
   have f0 := hown.frozenAt (j * 2)
   have f1 := hown.frozenAt (j * 2 + 1)
   have st := (hown.stored (j * 2) (.int .i64 (k + 2 * j))).1
   have st2 := (st.stored (j * 2 + 1) (.int .i64 (k + 2 * j + 1))).1
   rw [flatP_set _ _ _ j (by omega), midP_step k l j hlt] at st2
   have hch2 : Chg (fun g' => (Value.slice (some ⟨g, 0, none⟩) l.length cap).ownBlock = some g') w ((wr.setCell ⟨g, j * 2, none⟩ (.int .i64 (k + 2 * j))).setCell ⟨g, j * 2 + 1, none⟩ (.int .i64 (k + 2 * j + 1))) :=
    (hch.setAt g _ rfl _).setAt g _ rfl _
   generalize kOf (midP k l j) j = x0 at *
   generalize vOf (midP k l j) j = x1 at *
   have ST : Hid _ := And.intro st2 hch2
   clear st st2 hch2 hown hch hml hat OW
   have hb0 : 0 ≤ k + 2 * (j : Int) := by omega
   have hb1 : k + 2 * (j : Int) ≤ 10000000000 := by omega
   go_wp2
   go_roundw
   case rel => exact ⟨j + 1, by omega, by go_num, by go_num, ST.out.1, ST.out.2⟩
   case measure => simp [intOf]; omega
  ·have hjl : j = l.length := by omega
   subst hjl
   go_wp2
   go_ret
   rw [midP_full] at hown
   exact ⟨rfl, hown, hch⟩

theorem heldPairS_l (v : Value) (n : Nat) (k : Int) (w : World) (h : Row w v n (flatP (marksP k n))) (hn : n ≤ 67108864) (hk0 : 0 ≤ k) (hk1 : k ≤ 67108864) :
  Calls Tryz.prog 91 #[v, .int .i64 k] w fun e w' => e = .returned (.int .i64 (k + 2 * n)) ∧ w' = w := by
 have h' : Row w v (marksP k n).length (flatP (marksP k n)) := by rw [marksP_length]; exact h
 obtain ⟨a, b, off, cap, rfl, hcap, hmax, ha, hk, hv⟩ := h'.pairs
 rw [marksP_length] at *
 unfold maxLen at hmax
 clear h h'
 go_enter Tryz.func91, Tryz.ntmps91
 go_wp2
 go_loop [1, 5] (fun kk i => ∃ j : Nat, j ≤ n ∧ i = .int .i64 j ∧ kk = .int .i64 (k + 2 * j)) (fun _ i => n - (intOf i).toNat)
 case atStart => exact ⟨0, Nat.zero_le _, rfl, by simp⟩
 case round =>
  obtain ⟨j, hj, rfl, rfl⟩ := hrel
  by_cases hlt : j < n
  ·have hal := ha (by omega)
   subst hal
   have d0 : w.cell? ⟨b, off + j * 2, none⟩ = some (.int .i64 (k + 2 * j)) := by rw [hk j hlt, (marksP_at k n j hlt).1]
   have d1 : w.cell? ⟨b, off + j * 2 + 1, none⟩ = some (.int .i64 (k + 2 * j + 1)) := by rw [hv j hlt, (marksP_at k n j hlt).2]
   clear hk hv
   have hb0 : 0 ≤ k + 2 * (j : Int) := by omega
   have hb1 : k + 2 * (j : Int) ≤ 10000000000 := by omega
   go_wp2
   go_round
   case rel => exact ⟨j + 1, by omega, by go_num, by go_num⟩
   case measure => simp [intOf]; omega
  ·have hjl : j = n := by omega
   subst hjl
   go_wp2
   go_ret
   exact ⟨rfl, rfl⟩
end
section
open Go.RowKit

def marksI (k : Int) (n : Nat) : List Int := (List.range n).map fun (i : Nat) => k + i
theorem marksI_length (k : Int) (n : Nat) : (marksI k n).length = n := by simp [marksI]
theorem marksI_succ (k : Int) (n : Nat) : marksI k (n + 1) = marksI k n ++ [k + n] := by simp [marksI, List.range_succ]
theorem marksI_at (k : Int) (n i : Nat) (h : i < n) : iAt (marksI k n) i = k + i := by simp [marksI, iAt, List.getD, h]
def midI (k : Int) (l : List Int) (i : Nat) : List Int := marksI k i ++ l.drop i
theorem midI_length (k : Int) (l : List Int) (i : Nat) (h : i ≤ l.length) : (midI k l i).length = l.length := by simp [midI, marksI_length]; omega
theorem midI_zero (k : Int) (l : List Int) : midI k l 0 = l := by simp [midI, marksI]
theorem midI_full (k : Int) (l : List Int) : midI k l l.length = marksI k l.length := by simp [midI]
theorem midI_step (k : Int) (l : List Int) (i : Nat) (h : i < l.length) : (midI k l i).set i (k + i) = midI k l (i + 1) := by
 rw [midI, midI, marksI_succ, List.drop_eq_getElem_cons h, List.set_append_right _ _ (by rw [marksI_length]; omega), marksI_length, Nat.sub_self, List.set_cons_zero]
 simp
theorem flatI_setI (l : List Int) (s : Int) (i : Nat) : (flatI l).set i (.int .i64 s) = flatI (l.set i s) := by simp [flatI, List.map_set]
theorem flatI_atI (l : List Int) (i : Nat) (h : i < l.length) : (flatI l)[i]? = some (.int .i64 (iAt l i)) := by simp [flatI, iAt, List.getD, h]

theorem markIntS_s (v : Value) (l : List Int) (k : Int) (w : World) (h : w.ownsRow 0 3 1 v l.length (flatI l)) (hn : l.length ≤ 67108864) (hk0 : 0 ≤ k) (hk1 : k ≤ 67108864) :
  Calls Tryz.prog 47 #[v, .int .i64 k] w fun e w' => e = .returned (.int .i64 (k + l.length)) ∧ w'.ownsRow 0 3 1 v l.length (flatI (marksI k l.length)) ∧ Chg (fun g => v.ownBlock = some g) w w' := by
 obtain ⟨a, cap, hv⟩ := owns_val h
 have hcap : cap ≤ maxLen := by
  obtain ⟨_, ⟨e, _⟩ | ⟨g, cap', cur, e, _, _, _, hc, _⟩⟩ := h
  ·rw [hv] at e; simp at e; rw [e.2.2]; exact Nat.zero_le _
  ·rw [hv] at e; simp at e; rw [e.2]; exact hc
 unfold maxLen at hcap
 have OW : Hid (w.ownsRow 0 3 1 v l.length (flatI l)) := h
 clear h
 rw [hv] at OW ⊢
 clear hv
 go_enter Tryz.func47, Tryz.ntmps47
 go_wp2
 go_loopw [1, 5] (fun kk i wr => ∃ j : Nat, j ≤ l.length ∧ i = .int .i64 j ∧ kk = .int .i64 (k + j) ∧ wr.ownsRow 0 3 1 (.slice a l.length cap) l.length (flatI (midI k l j)) ∧ Chg (fun g => (Value.slice a l.length cap).ownBlock = some g) w wr)
  (fun _ i _ => l.length - (intOf i).toNat)
 case atStart => exact ⟨0, Nat.zero_le _, rfl, by simp, by rw [midI_zero]; exact OW.out, Chg.refl _ _⟩
 case round =>
  obtain ⟨j, hj, rfl, rfl, hown, hch⟩ := hrel
  by_cases hlt : j < l.length
  ·have hex : ∃ g, a = some ⟨g, 0, none⟩ := by
    obtain ⟨_, ⟨e, e2⟩ | ⟨g, cap', cur, e, _⟩⟩ := hown
    ·omega
    ·simp at e; exact ⟨g, e.1⟩
   obtain ⟨g, rfl⟩ := hex
   have hml : (midI k l j).length = l.length := midI_length k l j hj
   have hat := flatI_atI (midI k l j) j (by omega)
   have e0 := (hown.cellAt j (by omega)).trans hat
   have f0 := hown.frozenAt j
   have st := (hown.stored j (.int .i64 (k + j))).1
   rw [flatI_setI, midI_step k l j hlt] at st
   have hch2 : Chg (fun g' => (Value.slice (some ⟨g, 0, none⟩) l.length cap).ownBlock = some g') w (wr.setCell ⟨g, j, none⟩ (.int .i64 (k + j))) := hch.setAt g _ rfl _
   generalize iAt (midI k l j) j = x0 at *
   have ST : Hid _ := And.intro st hch2
   clear st hch2 hown hch hml hat OW
   have hb0 : 0 ≤ k + (j : Int) := by omega
   have hb1 : k + (j : Int) ≤ 10000000000 := by omega
   go_wp2
   go_roundw
   case rel => exact ⟨j + 1, by omega, by go_num, by go_num, ST.out.1, ST.out.2⟩
   case measure => simp [intOf]; omega
  ·have hjl : j = l.length := by omega
   subst hjl
   go_wp2
   go_ret
   rw [midI_full] at hown
   exact ⟨rfl, hown, hch⟩

theorem heldIntS_s (v : Value) (n : Nat) (k : Int) (w : World) (h : Row w v n (flatI (marksI k n))) (hn : n ≤ 67108864) (hk0 : 0 ≤ k) (hk1 : k ≤ 67108864) :
  Calls Tryz.prog 92 #[v, .int .i64 k] w fun e w' => e = .returned (.int .i64 (k + n)) ∧ w' = w := by
 have h' : Row w v (marksI k n).length (flatI (marksI k n)) := by rw [marksI_length]; exact h
 obtain ⟨a, b, off, cap, rfl, hcap, hmax, ha, hk⟩ := h'.ints
 rw [marksI_length] at *
 unfold maxLen at hmax
 clear h h'
 go_enter Tryz.func92, Tryz.ntmps92
 go_wp2
 go_loop [1, 5] (fun kk i => ∃ j : Nat, j ≤ n ∧ i = .int .i64 j ∧ kk = .int .i64 (k + j)) (fun _ i => n - (intOf i).toNat)
 case atStart => exact ⟨0, Nat.zero_le _, rfl, by simp⟩
 case round =>
  obtain ⟨j, hj, rfl, rfl⟩ := hrel
  by_cases hlt : j < n
  ·have hal := ha (by omega)
   subst hal
   have d0 : w.cell? ⟨b, off + j, none⟩ = some (.int .i64 (k + j)) := by rw [hk j hlt, marksI_at k n j hlt]
   clear hk
   have hb0 : 0 ≤ k + (j : Int) := by omega
   have hb1 : k + (j : Int) ≤ 10000000000 := by omega
   go_wp2
   go_round
   case rel => exact ⟨j + 1, by omega, by go_num, by go_num⟩
   case measure => simp [intOf]; omega
  ·have hjl : j = n := by omega
   subst hjl
   go_wp2
   go_ret
   exact ⟨rfl, rfl⟩

theorem markPairS_nil (a : Option Addr) (q : Nat) (k : Int) (w : World) : Calls Tryz.prog 46 #[.slice a 0 q, .int .i64 k] w fun e w' => e = .returned (.int .i64 k) ∧ w' = w := by
 go_enter Tryz.func46, Tryz.ntmps46
 go_wp2
 go_loop [1, 5] (fun kk i => kk = .int .i64 k ∧ i = .int .i64 0) (fun _ _ => 0)
 case atStart => exact ⟨rfl, rfl⟩
 case round =>
  obtain ⟨rfl, rfl⟩ := hrel
  go_wp2
  go_ret
  exact ⟨rfl, rfl⟩
theorem markIntS_nil (a : Option Addr) (q : Nat) (k : Int) (w : World) : Calls Tryz.prog 47 #[.slice a 0 q, .int .i64 k] w fun e w' => e = .returned (.int .i64 k) ∧ w' = w := by
 go_enter Tryz.func47, Tryz.ntmps47
 go_wp2
 go_loop [1, 5] (fun kk i => kk = .int .i64 k ∧ i = .int .i64 0) (fun _ _ => 0)
 case atStart => exact ⟨rfl, rfl⟩
 case round =>
  obtain ⟨rfl, rfl⟩ := hrel
  go_wp2
  go_ret
  exact ⟨rfl, rfl⟩
theorem markMsgS_nil (a : Option Addr) (q : Nat) (k : Int) (w : World) : Calls Tryz.prog 49 #[.slice a 0 q, .int .i64 k] w fun e w' => e = .returned (.int .i64 k) ∧ w' = w := by
 go_enter Tryz.func49, Tryz.ntmps49
 go_wp2
 go_loop [1, 5] (fun kk i => kk = .int .i64 k ∧ i = .int .i64 0) (fun _ _ => 0)
 case atStart => exact ⟨rfl, rfl⟩
 case round =>
  obtain ⟨rfl, rfl⟩ := hrel
  go_wp2
  go_ret
  exact ⟨rfl, rfl⟩
end
section
open Go.RowKit

theorem al1 (w : World) (o : Obj) : Below w.heap.size w (w.alloc o) := (Below.refl _ _).alloc (Nat.le_refl _) o
theorem al2 (w : World) (o o' : Obj) : Below w.heap.size w ((w.alloc o).alloc o') := (al1 w o).alloc (by simp) o'
abbrev set2 (u : World) (L : Nat) (t0 t1 : Value) : World := (u.setCell ⟨L, 0, none⟩ t0).setCell ⟨L, 1, none⟩ t1
theorem chg_set1 (u : World) (L j : Nat) (t : Value) : Chg (fun g => g = L) u (u.setCell ⟨L, j, none⟩ t) := (Chg.refl (fun g => g = L) u).setAt L j rfl t
theorem OwnE.drew {w : World} {base e size n : Nat} {v : Value} {xs : List Value} (h : OwnE w base e size v n xs) : OwnE w.drew base e size v n xs := h.below (Below.refl _ _).drew
theorem OwnE.alloc {w : World} {base e size n : Nat} {v : Value} {xs : List Value} (h : OwnE w base e size v n xs) (o : Obj) : OwnE (w.alloc o) base e size v n xs := h.below (al1 w o)
theorem flatI_one (l : List Int) : ∀ y ∈ flatI l, y.oneCell' = true := by
 intro y hy
 simp [flatI] at hy
 obtain ⟨a, _, rfl⟩ := hy
 rfl
end
end Go.Proofs.YtkcaelfkcepdkaaGreat
