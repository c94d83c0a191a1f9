/-
  Lists of what was done last as rows of cells; the laws' own functions on them, and slices.Equal of two.
  Lists of truths: the laws' functions on them.
  The program's slices.Clone, of what was done last and of truths.
  Boxes: a variable's block, framed.
-/
import Derived.Test.YtmdajbbpigbdcaaGreatOfRise2
import Derived.Test.YtmdajbbpigbdcaaGreatOfRise4
import Derived.Deep.QuietTactic
import Derived.BigQuiet
import Derived.Test.YtmdajbbpigbdcaaGreatOfRise10
import Derived.Test.YtmdajbbpigbdcaaGreatOfRise1
namespace Go.Proofs.YtmdajbbpigbdcaaGreat
set_option maxRecDepth 100000
set_option maxHeartbeats 8000000
section
open Go.RowKit

abbrev Dn := Int × Int × Int × Bool
abbrev DL := List Dn
abbrev dn0 : Dn := (0, 0, 0, false)
def dC (l : DL) (i : Nat) : Int := (l.getD i dn0).1
def dS (l : DL) (i : Nat) : Int := (l.getD i dn0).2.1
def dV (l : DL) (i : Nat) : Int := (l.getD i dn0).2.2.1
def dH (l : DL) (i : Nat) : Bool := (l.getD i dn0).2.2.2
theorem dl_at (l : DL) (i : Nat) (h : i < l.length) : l[i] = (dC l i, dS l i, dV l i, dH l i) := by simp [dC, dS, dV, dH, List.getD, h]
theorem dl_ext {l1 l2 : DL} (hl : l1.length = l2.length) (h : ∀ i, i < l1.length → dC l1 i = dC l2 i ∧ dS l1 i = dS l2 i ∧ dV l1 i = dV l2 i ∧ dH l1 i = dH l2 i) : l1 = l2 := by
 apply List.ext_getElem hl
 intro i h1 h2
 rw [dl_at l1 i h1, dl_at l2 i h2, (h i h1).1, (h i h1).2.1, (h i h1).2.2.1, (h i h1).2.2.2]
theorem take_succD (l : DL) (k : Nat) (hk : k < l.length) : l.take (k + 1) = l.take k ++ [(dC l k, dS l k, dV l k, dH l k)] := by
 rw [List.take_succ_eq_append_getElem hk, dl_at l k hk]

def flatD (l : DL) : List Value := l.flatMap fun m => [.int .i64 m.1, .int .i64 m.2.1, .int .i64 m.2.2.1, .bool m.2.2.2]
theorem flatD_cons (m : Dn) (l : DL) : flatD (m :: l) = .int .i64 m.1 :: .int .i64 m.2.1 :: .int .i64 m.2.2.1 :: .bool m.2.2.2 :: flatD l := rfl
theorem flatD_length (l : DL) : (flatD l).length = l.length * 4 := by
 induction l with
 | nil => rfl
 | cons a l ih => rw [flatD_cons]; simp only [List.length_cons]; omega
theorem flatD_at (l : DL) : ∀ i, i < l.length → (flatD l)[i * 4]? = some (.int .i64 (dC l i)) ∧ (flatD l)[i * 4 + 1]? = some (.int .i64 (dS l i)) ∧ (flatD l)[i * 4 + 2]? = some (.int .i64 (dV l i)) ∧ (flatD l)[i * 4 + 3]? = some (.bool (dH l i)) := by
 induction l with
 | nil => intro i h; simp at h
 | cons a l ih =>
  intro i h
  cases i with
  | zero => simp [flatD_cons, dC, dS, dV, dH]
  | succ i =>
   have := ih i (by simpa using h)
   have e1 : (i + 1) * 4 = i * 4 + 1 + 1 + 1 + 1 := by omega
   have e2 : (i + 1) * 4 + 1 = (i * 4 + 1) + 1 + 1 + 1 + 1 := by omega
   have e3 : (i + 1) * 4 + 2 = (i * 4 + 2) + 1 + 1 + 1 + 1 := by omega
   have e4 : (i + 1) * 4 + 3 = (i * 4 + 3) + 1 + 1 + 1 + 1 := by omega
   rw [e4, e3, e2, e1, flatD_cons]
   simpa [dC, dS, dV, dH] using this
theorem flatD_set (l : DL) (a b c : Int) (d : Bool) : ∀ i, i < l.length → ((((flatD l).set (i * 4) (.int .i64 a)).set (i * 4 + 1) (.int .i64 b)).set (i * 4 + 2) (.int .i64 c)).set (i * 4 + 3) (.bool d) = flatD (l.set i (a, b, c, d)) := by
 induction l with
 | nil => intro i h; simp at h
 | cons p l ih =>
  intro i h
  cases i with
  | zero => simp [flatD_cons]
  | succ i =>
   have := ih i (by simpa using h)
   rw [flatD_cons, List.set_cons_succ, flatD_cons, show (i + 1) * 4 + 3 = (i * 4 + 3) + 1 + 1 + 1 + 1 by omega, show (i + 1) * 4 + 2 = (i * 4 + 2) + 1 + 1 + 1 + 1 by omega, show (i + 1) * 4 = i * 4 + 1 + 1 + 1 + 1 by omega]
   simp only [List.set_cons_succ]
   rw [this]

theorem Row.dones {w : World} {v : Value} {l : DL} (h : Row w v l.length (flatD l)) :
  ∃ (a : Option Addr) (b off cap : Nat), v = .slice a l.length cap ∧ l.length ≤ cap ∧ cap ≤ maxLen ∧ (0 < l.length → a = some ⟨b, off, none⟩) ∧
   (∀ i, i < l.length → w.cell? ⟨b, off + i * 4, none⟩ = some (.int .i64 (dC l i))) ∧ (∀ i, i < l.length → w.cell? ⟨b, off + i * 4 + 1, none⟩ = some (.int .i64 (dS l i))) ∧ (∀ i, i < l.length → w.cell? ⟨b, off + i * 4 + 2, none⟩ = some (.int .i64 (dV l i))) ∧ (∀ i, i < l.length → w.cell? ⟨b, off + i * 4 + 3, none⟩ = some (.bool (dH l i))) := by
 obtain ⟨a, b, off, cap, h1, h2, h3, h4, h5, _⟩ := h
 exact ⟨a, b, off, cap, h1, h2, h3, h4, fun i hi => h5 _ _ (flatD_at l i hi).1, fun i hi => h5 _ _ (flatD_at l i hi).2.1, fun i hi => h5 _ _ (flatD_at l i hi).2.2.1, fun i hi => h5 _ _ (flatD_at l i hi).2.2.2⟩

theorem szDoneS_any (a : Option Addr) (n cap : Nat) (left : Int) (hn : n ≤ maxLen) (hl : 0 ≤ left) (hl2 : left ≤ 1048576) (w : World) :
  Calls Tryz.prog 55 #[.slice a n cap, .int .i64 left] w fun e w' => e = .returned (.int .i64 (if (n : Int) ≤ left then left - n else -1)) ∧ w' = w := by
 unfold maxLen at hn
 by_cases h : (n : Int) ≤ left
 ·go_enter Tryz.func55, Tryz.ntmps55
  go_wp2
  go_ret
  exact ⟨rfl, rfl⟩
 ·go_enter Tryz.func55, Tryz.ntmps55
  go_wp2
  go_ret
  exact ⟨rfl, rfl⟩

def eqDoneB (p q : Dn) : Bool := decide (p = q)
theorem ne_of_eqDoneB {l1 l2 : DL} {k : Nat} (h : eqDoneB (dC l1 k, dS l1 k, dV l1 k, dH l1 k) (dC l2 k, dS l2 k, dV l2 k, dH l2 k) = false) : l1 ≠ l2 := by
 intro e; subst e; simp [eqDoneB] at h
abbrev dnV (a b c : Int) (d : Bool) : Value := .agg #[.int .i64 a, .int .i64 b, .int .i64 c, .bool d]

theorem eqDone_any (a b c : Int) (d : Bool) (a2 b2 c2 : Int) (d2 : Bool) (w : World) :
  Calls Tryz.prog 108 #[dnV a b c d, dnV a2 b2 c2 d2] w fun r w' => r = .returned (.bool (eqDoneB (a, b, c, d) (a2, b2, c2, d2))) ∧ Below w.heap.size w w' := by
 cases d <;> cases d2 <;>
 ·go_enter Tryz.func108, Tryz.ntmps108
  go_wp2
  all_goals (go_ret; refine ⟨ret_bool ?_, ((Below.refl _ _).alloc (Nat.le_refl _) _).alloc (by simp) _⟩; simp_all [eqDoneB])

theorem eqDoneS_any (v1 v2 : Value) (l1 l2 : DL) (w : World) (h1 : Row w v1 l1.length (flatD l1)) (h2 : Row w v2 l2.length (flatD l2)) :
  Calls Tryz.prog 76 #[v1, v2] w fun e w' => e = .returned (.bool (decide (l1 = l2))) ∧ Below w.heap.size w w' := by
 obtain ⟨a, b, off, cap, rfl, hcap, hmax, ha, ho, hk, hv, hh⟩ := h1.dones
 obtain ⟨a2, b2, off2, cap2, rfl, hcap2, hmax2, ha2, ho2, hk2, hv2, hh2⟩ := h2.dones
 unfold maxLen at hmax hmax2
 by_cases hl : l1.length = l2.length
 ·have hne : ((l1.length : Int) != (l2.length : Int)) = false := by rw [bne_eq_false_iff_eq]; omega
  have HL : Hid (l1.length = l2.length) := hl
  have hl2 : l1.length ≤ l2.length := by omega
  clear hl
  go_enter Tryz.func76, Tryz.ntmps76
  go_wp2
  go_loopw [5] (fun i wr => ∃ k : Nat, k ≤ l1.length ∧ i = .int .i64 k ∧ (∀ i, i < k → dC l1 i = dC l2 i ∧ dS l1 i = dS l2 i ∧ dV l1 i = dV l2 i ∧ dH l1 i = dH l2 i) ∧ Below w.heap.size w wr)
   (fun i _ => l1.length - (intOf i).toNat)
  case atStart => exact ⟨0, Nat.zero_le _, rfl, fun i hi => absurd hi (Nat.not_lt_zero _), Below.refl _ _⟩
  case round =>
   obtain ⟨k, hkl, rfl, hall, hb⟩ := hrel
   have ALL : Hid (∀ i, i < k → dC l1 i = dC l2 i ∧ dS l1 i = dS l2 i ∧ dV l1 i = dV l2 i ∧ dH l1 i = dH l2 i) := hall
   clear hall
   by_cases hlt : k < l1.length
   ·have hal := ha (by omega)
    subst hal
    have hal2 := ha2 (by omega)
    subst hal2
    have hlt2 : k < l2.length := by omega
    have d0 := (hb.cell (by exact cell_lt (ho k hlt))).trans (ho k hlt)
    have d1 := (hb.cell (by exact cell_lt (hk k hlt))).trans (hk k hlt)
    have d2 := (hb.cell (by exact cell_lt (hv k hlt))).trans (hv k hlt)
    have d6 := (hb.cell (by exact cell_lt (hh k hlt))).trans (hh k hlt)
    have d3 := (hb.cell (by exact cell_lt (ho2 k hlt2))).trans (ho2 k hlt2)
    have d4 := (hb.cell (by exact cell_lt (hk2 k hlt2))).trans (hk2 k hlt2)
    have d5 := (hb.cell (by exact cell_lt (hv2 k hlt2))).trans (hv2 k hlt2)
    have d7 := (hb.cell (by exact cell_lt (hh2 k hlt2))).trans (hh2 k hlt2)
    clear ho hk hv hh ha ho2 hk2 hv2 hh2 ha2
    go_wp2_with fail
    cases hq : eqDoneB (dC l1 k, dS l1 k, dV l1 k, dH l1 k) (dC l2 k, dS l2 k, dV l2 k, dH l2 k)
    ·have NE : Hid (decide (l1 = l2) = false) := decide_eq_false (ne_of_eqDoneB hq)
     go_region_with (go_at_call 108; refine (eqDone_any _ _ _ _ _ _ _ _ _).mono ?_; rintro e w1 ⟨rfl, hb1⟩)
     all_goals
      go_wp2
      go_ret
      exact ⟨ret_bool NE.out.symm, hb.drew.trans (hb1.mono hb.size)⟩
    ·have EQ : Hid (dC l1 k = dC l2 k ∧ dS l1 k = dS l2 k ∧ dV l1 k = dV l2 k ∧ dH l1 k = dH l2 k) := by show _ ∧ _; simpa [eqDoneB] using hq
     go_region_with (go_at_call 108; refine (eqDone_any _ _ _ _ _ _ _ _ _).mono ?_; rintro e w1 ⟨rfl, hb1⟩)
     all_goals
      go_wp2
      go_roundw
      case rel => exact ⟨k + 1, by omega, by go_num, fun i hi => if h : i < k then ALL.out i h else by rw [show i = k by omega]; exact EQ.out, hb.drew.trans (hb1.mono hb.size)⟩
      case measure => simp [intOf]; omega
   ·go_wp2
    go_ret
    refine ⟨ret_bool ?_, hb⟩
    symm
    rw [decide_eq_true_iff]
    exact dl_ext HL.out (fun i hi => ALL.out i (by omega))
 ·have hne : ((l1.length : Int) != (l2.length : Int)) = true := by rw [bne_iff_ne]; omega
  go_enter Tryz.func76, Tryz.ntmps76
  go_wp2
  go_ret
  refine ⟨ret_bool ?_, Below.refl _ _⟩
  symm
  rw [decide_eq_false_iff_not]
  intro h; exact hl (by rw [h])

theorem Tryz.info126 : (Tryz.prog.info? 126).map (fun i => (i.zero, i.size, i.bytes)) = some (some (.agg #[.int .i64 0, .int .i64 0, .int .i64 0, .bool false]), 4, 32) := by kernel_rfl

def filledD (l : DL) (k : Nat) : DL := l.take k ++ List.replicate (l.length - k) dn0
theorem filledD_length (l : DL) (k : Nat) (hk : k ≤ l.length) : (filledD l k).length = l.length := by simp [filledD]; omega
theorem filledD_full (l : DL) : filledD l l.length = l := by simp [filledD]
theorem filledD_step (l : DL) (k : Nat) (hk : k < l.length) : (filledD l k).set k (dC l k, dS l k, dV l k, dH l k) = filledD l (k + 1) := by
 obtain ⟨m, hm⟩ : ∃ m, l.length - k = m + 1 := ⟨l.length - k - 1, by omega⟩
 rw [filledD, filledD, take_succD l k hk, hm, show l.length - (k + 1) = m by omega, List.replicate_succ, List.set_append_right _ _ (by simp; omega)]
 simp [show min k l.length = k by omega]
theorem madeCells_done (n : Nat) : (madeCells #[.int .i64 0, .int .i64 0, .int .i64 0, .bool false] (n * 4)).toList = flatD (List.replicate n dn0) := by
 apply List.ext_getElem?
 intro j
 by_cases hj : j < n * 4
 ·have hat := flatD_at (List.replicate n dn0) (j / 4) (by simp; omega)
  have h1 : dC (List.replicate n dn0) (j / 4) = 0 := by simp [dC, List.getD, show j / 4 < n by omega]
  have h2 : dS (List.replicate n dn0) (j / 4) = 0 := by simp [dS, List.getD, show j / 4 < n by omega]
  have h3 : dV (List.replicate n dn0) (j / 4) = 0 := by simp [dV, List.getD, show j / 4 < n by omega]
  have h4 : dH (List.replicate n dn0) (j / 4) = false := by simp [dH, List.getD, show j / 4 < n by omega]
  rw [h1, h2, h3, h4] at hat
  rcases (show j % 4 = 0 ∨ j % 4 = 1 ∨ j % 4 = 2 ∨ j % 4 = 3 by omega) with e | e | e | e
  ·have : j / 4 * 4 = j := by omega
   rw [this] at hat
   rw [hat.1]
   simp [madeCells, hj, e]
  ·have : j / 4 * 4 + 1 = j := by omega
   rw [this] at hat
   rw [hat.2.1]
   simp [madeCells, hj, e]
  ·have : j / 4 * 4 + 2 = j := by omega
   rw [this] at hat
   rw [hat.2.2.1]
   simp [madeCells, hj, e]
  ·have : j / 4 * 4 + 3 = j := by omega
   rw [this] at hat
   rw [hat.2.2.2]
   simp [madeCells, hj, e]
 ·have : (flatD (List.replicate n dn0))[j]? = none := by
   rw [List.getElem?_eq_none_iff, flatD_length]; simp; omega
  rw [this]
  simp [madeCells, hj]

theorem toDone_any (a b c : Int) (d : Bool) (w : World) :
  Calls Tryz.prog 93 #[dnV a b c d] w fun e w' => e = .returned (dnV a b c d) ∧ Below w.heap.size w w' := by
 go_enter Tryz.func93, Tryz.ntmps93
 go_wp2
 refine bodyPost_ret (v := dnV a b c d) (by simp [results, Tryz.results93, go_sem]) rfl ⟨rfl, ?_⟩
 exact (((Below.refl _ _).alloc (Nat.le_refl _) _).alloc (by simp) _).alloc (by simp; omega) _

theorem toDoneS_any (v : Value) (l : DL) (w : World) (hr : Row w v l.length (flatD l)) (hn : l.length ≤ 1048576) :
  Calls Tryz.prog 63 #[v] w fun e w' => ∃ v', e = .returned v' ∧ w'.ownsRow w.heap.size 126 4 v' l.length (flatD l) ∧ Below w.heap.size w w' := by
 obtain ⟨a, b, off, cap, rfl, hcap, hmax, ha, ho, hk, hv, hh⟩ := hr.dones
 obtain ⟨i0, hi, hz0, hz1, hz2⟩ := info_parts Tryz.info126
 unfold maxLen at hmax
 go_enter Tryz.func63, Tryz.ntmps63
 go_wp2_with (at_make; refine wpList_make_full _ rfl _ _ 46 rfl w.heap.size 126 i0 _ 4 Tryz.underlying46 hi hz0 hz1 .i64 .i64 _ _ l.length rfl rfl rfl rfl ?c1 ?c2 ?c3 ?_)
 case c1 => rw [hz2]; omega
 case c2 => unfold maxLen; omega
 case c3 => exact Nat.le_refl _
 intro w0 hown0 hgrow0
 have hb0 : Below w.heap.size w w0 := (Below.refl _ _).grown hgrow0 (Nat.le_refl _) (fun k hk => by cases hk)
 clear hgrow0
 go_wp2
 go_loopw [4] (fun i wr => ∃ k : Nat, k ≤ l.length ∧ i = .int .i64 k ∧ wr.ownsRow w.heap.size 126 4 (.slice (some ⟨w.heap.size, 0, none⟩) l.length l.length) l.length (flatD (filledD l k)) ∧ Below w.heap.size w wr)
  (fun i _ => l.length - (intOf i).toNat)
 case atStart => exact ⟨0, Nat.zero_le _, rfl, by rw [show (madeCells _ (l.length * 4)).toList = flatD (List.replicate l.length dn0) from madeCells_done l.length] at hown0; rw [show filledD l 0 = List.replicate l.length dn0 by simp [filledD]]; exact hown0, hb0⟩
 case round =>
  obtain ⟨k, hkl, rfl, hown, hb⟩ := hrel
  clear hown0 hb0
  by_cases hlt : k < l.length
  ·have hal := ha (by omega)
   subst hal
   have d0 := (hb.cell (by exact cell_lt (ho k hlt))).trans (ho k hlt)
   have d1 := (hb.cell (by exact cell_lt (hk k hlt))).trans (hk k hlt)
   have d2 := (hb.cell (by exact cell_lt (hv k hlt))).trans (hv k hlt)
   have d3 := (hb.cell (by exact cell_lt (hh k hlt))).trans (hh k hlt)
   clear ho hk hv hh ha
   go_wp2_with fail
   refine (toDone_any _ _ _ _ _).mono ?_
   rintro e w1 ⟨rfl, hb1⟩
   have own1 := owns_below hown hb1
   have hfl : (filledD l k).length = l.length := filledD_length l k hkl
   have hat := flatD_at (filledD l k) k (by omega)
   have e0 := (own1.cellAt (k * 4) (by omega)).trans hat.1
   have e1 := (own1.cellAt (k * 4 + 1) (by omega)).trans hat.2.1
   have e2 := (own1.cellAt (k * 4 + 2) (by omega)).trans hat.2.2.1
   have e3 := (own1.cellAt (k * 4 + 3) (by omega)).trans hat.2.2.2
   have f0 := own1.frozenAt (k * 4)
   have f1 := own1.frozenAt (k * 4 + 1)
   have f2 := own1.frozenAt (k * 4 + 2)
   have f3 := own1.frozenAt (k * 4 + 3)
   have st := (own1.stored (k * 4) (.int .i64 (dC l k))).1
   have st2 := (st.stored (k * 4 + 1) (.int .i64 (dS l k))).1
   have st3 := (st2.stored (k * 4 + 2) (.int .i64 (dV l k))).1
   have st4 := (st3.stored (k * 4 + 3) (.bool (dH l k))).1
   rw [flatD_set _ _ _ _ _ k (by omega), filledD_step l k hlt] at st4
   have hb2 : Below w.heap.size w w1 := hb.trans (hb1.mono hb.size)
   generalize dC (filledD l k) k = x0 at *
   generalize dS (filledD l k) k = x1 at *
   generalize dV (filledD l k) k = x2 at *
   generalize dH (filledD l k) k = x3 at *
   have ST : Hid _ := st4
   clear st st2 st3 st4 hown hb1 d0 d1 d2 d3 own1 hat hfl hr
   go_wp2
   go_roundw
   case rel => exact ⟨k + 1, by omega, by go_num, ST.out, (((hb2.setCell (Nat.le_refl _) _).setCell (Nat.le_refl _) _).setCell (Nat.le_refl _) _).setCell (Nat.le_refl _) _⟩
   case measure => simp [intOf]; omega
  ·go_wp2
   go_ret
   have hkk : k = l.length := by omega
   subst hkk
   rw [filledD_full] at hown
   exact ⟨_, rfl, hown, hb⟩
end
section
open Go.RowKit

def flatL (l : List Bool) : List Value := l.map Value.bool
def bOf (l : List Bool) (i : Nat) : Bool := l.getD i false
theorem flatL_length (l : List Bool) : (flatL l).length = l.length := by simp [flatL]
theorem flatL_at (l : List Bool) (i : Nat) (h : i < l.length) : (flatL l)[i]? = some (.bool (bOf l i)) := by simp [flatL, bOf, List.getD, h]
theorem flatL_append (l m : List Bool) : flatL (l ++ m) = flatL l ++ flatL m := by simp [flatL]
theorem flatL_set (l : List Bool) (s : Bool) (i : Nat) : (flatL l).set i (.bool s) = flatL (l.set i s) := by simp [flatL, List.map_set]
theorem takeL_succ (l : List Bool) (k : Nat) (hk : k < l.length) : l.take (k + 1) = l.take k ++ [bOf l k] := by
 rw [List.take_succ_eq_append_getElem hk]; simp [bOf, List.getD, hk]
theorem Row.bools {w : World} {v : Value} {l : List Bool} (h : Row w v l.length (flatL l)) :
  ∃ (a : Option Addr) (b off cap : Nat), v = .slice a l.length cap ∧ l.length ≤ cap ∧ cap ≤ maxLen ∧ (0 < l.length → a = some ⟨b, off, none⟩) ∧
   (∀ i, i < l.length → w.cell? ⟨b, off + i, none⟩ = some (.bool (bOf l i))) := by
 obtain ⟨a, b, off, cap, h1, h2, h3, h4, h5, _⟩ := h
 exact ⟨a, b, off, cap, h1, h2, h3, h4, fun i hi => h5 _ _ (flatL_at l i hi)⟩
theorem extL {l1 l2 : List Bool} (hl : l1.length = l2.length) (h : ∀ i, i < l1.length → bOf l1 i = bOf l2 i) : l1 = l2 := by
 apply List.ext_getElem hl
 intro i h1 h2
 have := h i h1
 simpa [bOf, List.getD, h1, h2] using this

theorem Tryz.info4 : (Tryz.prog.info? 4).map (fun i => (i.zero, i.size, i.bytes)) = some (some (.bool false), 1, 1) := by kernel_rfl

def filledL (l : List Bool) (k : Nat) : List Value := flatL (l.take k) ++ List.replicate (l.length - k) (.bool false)
theorem filledL_full (l : List Bool) : filledL l l.length = flatL l := by simp [filledL]
theorem filledL_zero (l : List Bool) (k : Nat) (hk : k < l.length) : (filledL l k)[k]? = some (.bool false) := by
 have hl : (flatL (l.take k)).length = k := by rw [flatL_length]; simp; omega
 rw [filledL, List.getElem?_append_right (by omega), List.getElem?_replicate_of_lt (by omega)]
theorem filledL_step (l : List Bool) (k : Nat) (hk : k < l.length) : (filledL l k).set k (.bool (bOf l k)) = filledL l (k + 1) := by
 have hl : (flatL (l.take k)).length = k := by rw [flatL_length]; simp; omega
 obtain ⟨m, hm⟩ : ∃ m, l.length - k = m + 1 := ⟨l.length - k - 1, by omega⟩
 have hm2 : l.length - (k + 1) = m := by omega
 rw [filledL, filledL, takeL_succ l k hk, flatL_append, hm, hm2, List.replicate_succ]
 rw [List.set_append_right _ _ (by omega), hl, Nat.sub_self, List.set_cons_zero]
 simp [flatL]

theorem toBoolS_any (v : Value) (l : List Bool) (w : World) (hr : Row w v l.length (flatL l)) (hn : l.length ≤ 1048576) :
  Calls Tryz.prog 27 #[v] w fun e w' => ∃ v', e = .returned v' ∧ w'.ownsRow w.heap.size 4 1 v' l.length (flatL l) ∧ Below w.heap.size w w' := by
 obtain ⟨a, b, off, cap, rfl, hcap, hmax, ha, hk⟩ := hr.bools
 obtain ⟨i0, hi, hz0, hz1, hz2⟩ := info_parts Tryz.info4
 unfold maxLen at hmax
 go_enter Tryz.func27, Tryz.ntmps27
 go_wp2_with (at_make; refine wpList_make_full _ rfl _ _ 34 rfl w.heap.size 4 i0 _ 1 Tryz.underlying34 hi hz0 hz1 .i64 .i64 _ _ l.length rfl rfl rfl rfl ?c1 ?c2 ?c3 ?_)
 case c1 => rw [hz2]; omega
 case c2 => unfold maxLen; omega
 case c3 => exact Nat.le_refl _
 intro w0 hown0 hgrow0
 have hb0 : Below w.heap.size w w0 := (Below.refl _ _).grown hgrow0 (Nat.le_refl _) (fun k hk => by cases hk)
 clear hgrow0
 go_wp2
 go_loopw [4] (fun i wr => ∃ k : Nat, k ≤ l.length ∧ i = .int .i64 k ∧ wr.ownsRow w.heap.size 4 1 (.slice (some ⟨w.heap.size, 0, none⟩) l.length l.length) l.length (filledL l k) ∧ Below w.heap.size w wr)
  (fun i _ => l.length - (intOf i).toNat)
 case atStart => exact ⟨0, Nat.zero_le _, rfl, by rw [madeCells_all _ (.bool false) (by decide) (fun i hi => by match i, hi with | 0, _ => rfl)] at hown0; simpa [filledL, flatL] using hown0, hb0⟩
 case round =>
  obtain ⟨k, hkl, rfl, hown, hb⟩ := hrel
  clear hown0 hb0
  by_cases hlt : k < l.length
  ·have hal := ha (by omega)
   subst hal
   have c0 := hk k hlt
   have d0 : wr.cell? ⟨b, off + k, none⟩ = some (.bool (bOf l k)) := (hb.cell (by exact cell_lt c0)).trans c0
   have e0 := (hown.cellAt k (by omega)).trans (filledL_zero l k hlt)
   have f0 := hown.frozenAt k
   have st := (hown.stored k (.bool (bOf l k))).1
   rw [filledL_step l k hlt] at st
   have ST : Hid ((wr.setCell ⟨w.heap.size, k, none⟩ (.bool (bOf l k))).ownsRow w.heap.size 4 1 (.slice (some ⟨w.heap.size, 0, none⟩) l.length l.length) l.length (filledL l (k + 1))) := st
   have HB : Hid _ := hb
   clear hk c0 ha st hown hb
   go_wp2
   go_roundw
   case rel => exact ⟨k + 1, by omega, by go_num, ST.out, HB.out.setCell (Nat.le_refl _) _⟩
   case measure => simp [intOf]; omega
  ·go_wp2
   go_ret
   have hkk : k = l.length := by omega
   subst hkk
   rw [filledL_full] at hown
   exact ⟨_, rfl, hown, hb⟩

theorem eqBoolS_any (v1 v2 : Value) (l1 l2 : List Bool) (w : World) (h1 : Row w v1 l1.length (flatL l1)) (h2 : Row w v2 l2.length (flatL l2)) :
  Calls Tryz.prog 34 #[v1, v2] w fun e w' => e = .returned (.bool (decide (l1 = l2))) ∧ Below w.heap.size w w' := by
 obtain ⟨a, b, off, cap, rfl, hcap, hmax, ha, hk⟩ := h1.bools
 obtain ⟨a2, b2, off2, cap2, rfl, hcap2, hmax2, ha2, hk2⟩ := h2.bools
 unfold maxLen at hmax hmax2
 by_cases hl : l1.length = l2.length
 ·have hne : ((l1.length : Int) != (l2.length : Int)) = false := by rw [bne_eq_false_iff_eq]; omega
  have HL : Hid (l1.length = l2.length) := hl
  have hl2 : l1.length ≤ l2.length := by omega
  clear hl
  go_enter Tryz.func34, Tryz.ntmps34
  go_wp2
  go_loopw [5] (fun i wr => ∃ k : Nat, k ≤ l1.length ∧ i = .int .i64 k ∧ Hid (∀ i, i < k → bOf l1 i = bOf l2 i) ∧ Below w.heap.size w wr)
   (fun i _ => l1.length - (intOf i).toNat)
  case atStart => exact ⟨0, Nat.zero_le _, rfl, fun i hi => absurd hi (Nat.not_lt_zero _), Below.refl _ _⟩
  case round =>
   obtain ⟨k, hkl, rfl, ALL, hb⟩ := hrel
   by_cases hlt : k < l1.length
   ·have hal := ha (by omega)
    subst hal
    have hal2 := ha2 (by omega)
    subst hal2
    have hlt2 : k < l2.length := by omega
    have d0 := (hb.cell (by exact cell_lt (hk k hlt))).trans (hk k hlt)
    have d1 := (hb.cell (by exact cell_lt (hk2 k hlt2))).trans (hk2 k hlt2)
    clear hk ha hk2 ha2
    by_cases hq : bOf l1 k = bOf l2 k
    ·have hq' : (bOf l1 k == bOf l2 k) = true := by rw [beq_iff_eq]; exact hq
     have EQ : Hid (bOf l1 k = bOf l2 k) := hq
     clear hq
     go_wp2_with fail
     go_quiet (fail)
     go_wp2
     go_roundw
     case rel => exact ⟨k + 1, by omega, by go_num, fun i hi => if h : i < k then ALL.out i h else by rw [show i = k by omega]; exact EQ.out, below_drewN hb _⟩
     case measure => simp [intOf]; omega
    ·have hq' : (bOf l1 k == bOf l2 k) = false := by rw [beq_eq_false_iff_ne]; exact hq
     have NE : Hid (decide (l1 = l2) = false) := decide_eq_false (fun e => hq (by rw [e]))
     clear hq
     go_wp2_with fail
     go_quiet (fail)
     go_wp2
     go_ret
     exact ⟨ret_bool NE.out.symm, below_drewN hb _⟩
   ·go_wp2
    go_ret
    refine ⟨ret_bool ?_, hb⟩
    symm
    rw [decide_eq_true_iff]
    exact extL HL.out (fun i hi => ALL.out i (by omega))
 ·have hne : ((l1.length : Int) != (l2.length : Int)) = true := by rw [bne_iff_ne]; omega
  go_enter Tryz.func34, Tryz.ntmps34
  go_wp2
  go_ret
  refine ⟨ret_bool ?_, Below.refl _ _⟩
  symm
  rw [decide_eq_false_iff_not]
  intro h; exact hl (by rw [h])
end
section
open Go.RowKit

theorem cloneD_any (v : Value) (n : Nat) (xs : List Value) (w : World) (h : Row w v n xs) (hl : xs.length = n * 4) (h1 : ∀ y ∈ xs, y.oneCell' = true) (hn : n ≤ 8388608) :
  Calls Tryz.prog 96 #[v] w fun e w' => ∃ v', e = .returned v' ∧ OwnE w' w.heap.size 126 4 v' n xs ∧ Below w.heap.size w w' := by
 obtain ⟨a, q, hv, hq⟩ := h.len
 obtain ⟨i0, hi0, hz0, hz1, hz2⟩ := info_parts Tryz.info126
 have HR : Hid _ := room_row (n := n) (bytes := 32) hn (by decide)
 have RR : Hid (∀ u, Below w.heap.size w u → Row u v n xs) := fun u hu => h.below hu
 have HL : Hid (xs.length = n * 4) := hl
 have H1 : Hid _ := h1
 cases a with
 | none =>
  have hn0 : n = 0 := by
   obtain ⟨a, b, o, c, h3, h4, h5, h6, h7, h8⟩ := h
   rw [hv] at h3
   injection h3 with e1 e2 e3
   have := h8 e1.symm
   omega
  subst hn0
  have hx : xs = [] := List.length_eq_zero_iff.1 (by omega)
  subst hx hv
  clear h hl h1 RR H1 HL
  have hnil : ∀ W, (binOp .eql 46 (.slice none 0 q) (.slice none 0 0)).run Tryz.prog W = .ok (.bool true) W := fun W => Lib.run_eql_slice_nil_nil W _ _ Tryz.underlying46
  go_enter Tryz.func96, Tryz.ntmps96
  go_wp2
  go_ret
  exact ⟨_, rfl, OwnE.nil _ _ _ _, Below.refl _ _⟩
 | some p =>
  subst hv
  clear h hl h1
  have hnil : ∀ W, (binOp .eql 46 (.slice (some p) n q) (.slice none 0 0)).run Tryz.prog W = .ok (.bool false) W := fun W => Lib.run_eql_slice_some_nil W _ _ _ Tryz.underlying46
  go_enter Tryz.func96, Tryz.ntmps96
  go_wp2_with (at_builtin; refine list_appE (w.alloc (.cells #[] 126)) rfl _ _ 46 rfl w.heap.size 126 i0 _ 4 32 Tryz.underlying46 hi0 hz0 hz1 hz2 rfl (by decide) (.slice (some ⟨w.heap.size, 0, none⟩) 0 0) 0 [] rfl (OwnE.zero _ _ _ _ _) (.slice (some p) n q) n xs rfl (RR.out _ (al1 _ _)) HL.out H1.out HR.out.1 HR.out.2 (by simp) ?_)
  rintro v' w2 ⟨o1, o2, o3, o4⟩
  have B2 : Below w.heap.size w w2 := Below.trans (al1 _ _) o3
  clear o2 o3 o4
  go_wp2
  go_ret
  exact ⟨_, rfl, by simpa using o1, B2⟩

theorem cloneL_any (v : Value) (n : Nat) (xs : List Value) (w : World) (h : Row w v n xs) (hl : xs.length = n * 1) (h1 : ∀ y ∈ xs, y.oneCell' = true) (hn : n ≤ 8388608) :
  Calls Tryz.prog 66 #[v] w fun e w' => ∃ v', e = .returned v' ∧ OwnE w' w.heap.size 4 1 v' n xs ∧ Below w.heap.size w w' := by
 obtain ⟨a, q, hv, hq⟩ := h.len
 obtain ⟨i0, hi0, hz0, hz1, hz2⟩ := info_parts Tryz.info4
 have HR : Hid _ := room_row (n := n) (bytes := 1) hn (by decide)
 have RR : Hid (∀ u, Below w.heap.size w u → Row u v n xs) := fun u hu => h.below hu
 have HL : Hid (xs.length = n * 1) := hl
 have H1 : Hid _ := h1
 cases a with
 | none =>
  have hn0 : n = 0 := by
   obtain ⟨a, b, o, c, h3, h4, h5, h6, h7, h8⟩ := h
   rw [hv] at h3
   injection h3 with e1 e2 e3
   have := h8 e1.symm
   omega
  subst hn0
  have hx : xs = [] := List.length_eq_zero_iff.1 (by omega)
  subst hx hv
  clear h hl h1 RR H1 HL
  have hnil : ∀ W, (binOp .eql 34 (.slice none 0 q) (.slice none 0 0)).run Tryz.prog W = .ok (.bool true) W := fun W => Lib.run_eql_slice_nil_nil W _ _ Tryz.underlying34
  go_enter Tryz.func66, Tryz.ntmps66
  go_wp2
  go_ret
  exact ⟨_, rfl, OwnE.nil _ _ _ _, Below.refl _ _⟩
 | some p =>
  subst hv
  clear h hl h1
  have hnil : ∀ W, (binOp .eql 34 (.slice (some p) n q) (.slice none 0 0)).run Tryz.prog W = .ok (.bool false) W := fun W => Lib.run_eql_slice_some_nil W _ _ _ Tryz.underlying34
  go_enter Tryz.func66, Tryz.ntmps66
  go_wp2_with (at_builtin; refine list_appE (w.alloc (.cells #[] 4)) rfl _ _ 34 rfl w.heap.size 4 i0 _ 1 1 Tryz.underlying34 hi0 hz0 hz1 hz2 rfl (by decide) (.slice (some ⟨w.heap.size, 0, none⟩) 0 0) 0 [] rfl (OwnE.zero _ _ _ _ _) (.slice (some p) n q) n xs rfl (RR.out _ (al1 _ _)) HL.out H1.out HR.out.1 HR.out.2 (by simp) ?_)
  rintro v' w2 ⟨o1, o2, o3, o4⟩
  have B2 : Below w.heap.size w w2 := Below.trans (al1 _ _) o3
  clear o2 o3 o4
  go_wp2
  go_ret
  exact ⟨_, rfl, by simpa using o1, B2⟩
end
section
open Go.RowKit

theorem bel_nw (w : World) (o : Obj) : Below w.heap.size w (w.alloc o) := (Below.refl _ _).alloc (Nat.le_refl _) _
def MBox (t : TypeId) (w : World) (B : Nat) (A : Array Value) : Prop := w.heap[B]? = some (.cells A t (0, 0))
theorem MBox.start (t : TypeId) (w : World) (A : Array Value) : MBox t (w.alloc (.cells A t)) w.heap.size A := heap_alloc_new w _
theorem MBox.step {t : TypeId} {w w' : World} {B : Nat} {A : Array Value} (h : MBox t w B A) (hb : Below w.heap.size w w') : MBox t w' B A := (hb.block B (Array.getElem?_eq_some_iff.1 h).1).trans h
theorem MBox.cells {t : TypeId} {w : World} {B : Nat} {A : Array Value} (h : MBox t w B A) : ∀ j, w.cell? ⟨B, j, none⟩ = A[j]? := fun j => cell_of_row _ _ j _ t (0, 0) h
end
end Go.Proofs.YtmdajbbpigbdcaaGreat
