/-
  Lists of messages as rows of cells; the laws' own functions on them.
  Lists of what was done last as rows of cells; the laws' own functions on them, and slices.Equal of two.
  Boxes: a variable's block, framed.
-/
import Derived.Test.YthfmifdpldmbaaaOfFirst1
namespace Go.Proofs.Ythfmifdpldmbaaa
set_option maxRecDepth 100000
set_option maxHeartbeats 8000000
section
open Go.RowKit

abbrev ML := List (Int × Int × Int)
def mO (l : ML) (i : Nat) : Int := (l.getD i (0, 0, 0)).1
def mK (l : ML) (i : Nat) : Int := (l.getD i (0, 0, 0)).2.1
def mV (l : ML) (i : Nat) : Int := (l.getD i (0, 0, 0)).2.2
theorem ml_at (l : ML) (i : Nat) (h : i < l.length) : l[i] = (mO l i, mK l i, mV l i) := by simp [mO, mK, mV, List.getD, h]
theorem ml_ext {l1 l2 : ML} (hl : l1.length = l2.length) (h : ∀ i, i < l1.length → mO l1 i = mO l2 i ∧ mK l1 i = mK l2 i ∧ mV l1 i = mV l2 i) : l1 = l2 := by
 apply List.ext_getElem hl
 intro i h1 h2
 rw [ml_at l1 i h1, ml_at l2 i h2, (h i h1).1, (h i h1).2.1, (h i h1).2.2]
theorem take_succM (l : ML) (k : Nat) (hk : k < l.length) : l.take (k + 1) = l.take k ++ [(mO l k, mK l k, mV l k)] := by
 rw [List.take_succ_eq_append_getElem hk, ml_at l k hk]

def flatM (l : ML) : List Value := l.flatMap fun m => [.int .i64 m.1, .int .i64 m.2.1, .int .i64 m.2.2]
theorem flatM_cons (m : Int × Int × Int) (l : ML) : flatM (m :: l) = .int .i64 m.1 :: .int .i64 m.2.1 :: .int .i64 m.2.2 :: flatM l := rfl
theorem flatM_length (l : ML) : (flatM l).length = l.length * 3 := by
 induction l with
 | nil => rfl
 | cons a l ih => rw [flatM_cons]; simp only [List.length_cons]; omega
theorem flatM_at (l : ML) : ∀ i, i < l.length → (flatM l)[i * 3]? = some (.int .i64 (mO l i)) ∧ (flatM l)[i * 3 + 1]? = some (.int .i64 (mK l i)) ∧ (flatM l)[i * 3 + 2]? = some (.int .i64 (mV l i)) := by
 induction l with
 | nil => intro i h; simp at h
 | cons a l ih =>
  intro i h
  cases i with
  | zero => simp [flatM_cons, mO, mK, mV]
  | succ i =>
   have := ih i (by simpa using h)
   have e1 : (i + 1) * 3 = i * 3 + 1 + 1 + 1 := by omega
   have e2 : (i + 1) * 3 + 1 = (i * 3 + 1) + 1 + 1 + 1 := by omega
   have e3 : (i + 1) * 3 + 2 = (i * 3 + 2) + 1 + 1 + 1 := by omega
   rw [e3, e2, e1, flatM_cons]
   simpa [mO, mK, mV] using this
theorem flatM_set (l : ML) (a b c : Int) : ∀ i, i < l.length → (((flatM l).set (i * 3) (.int .i64 a)).set (i * 3 + 1) (.int .i64 b)).set (i * 3 + 2) (.int .i64 c) = flatM (l.set i (a, b, c)) := by
 induction l with
 | nil => intro i h; simp at h
 | cons p l ih =>
  intro i h
  cases i with
  | zero => simp [flatM_cons]
  | succ i =>
   have := ih i (by simpa using h)
   rw [flatM_cons, List.set_cons_succ, flatM_cons, show (i + 1) * 3 + 2 = (i * 3 + 2) + 1 + 1 + 1 by omega, show (i + 1) * 3 = i * 3 + 1 + 1 + 1 by omega]
   simp only [List.set_cons_succ]
   rw [this]

theorem Row.msgs {w : World} {v : Value} {l : ML} (h : Row w v l.length (flatM l)) :
  ∃ (a : Option Addr) (b off cap : Nat), v = .slice a l.length cap ∧ l.length ≤ cap ∧ cap ≤ maxLen ∧ (0 < l.length → a = some ⟨b, off, none⟩) ∧
   (∀ i, i < l.length → w.cell? ⟨b, off + i * 3, none⟩ = some (.int .i64 (mO l i))) ∧ (∀ i, i < l.length → w.cell? ⟨b, off + i * 3 + 1, none⟩ = some (.int .i64 (mK l i))) ∧ (∀ i, i < l.length → w.cell? ⟨b, off + i * 3 + 2, none⟩ = some (.int .i64 (mV l i))) := by
 obtain ⟨a, b, off, cap, h1, h2, h3, h4, h5, _⟩ := h
 exact ⟨a, b, off, cap, h1, h2, h3, h4, fun i hi => h5 _ _ (flatM_at l i hi).1, fun i hi => h5 _ _ (flatM_at l i hi).2.1, fun i hi => h5 _ _ (flatM_at l i hi).2.2⟩

theorem szMsgS_any (a : Option Addr) (n cap : Nat) (left : Int) (hn : n ≤ maxLen) (hl : 0 ≤ left) (hl2 : left ≤ 1048576) (w : World) :
  Calls Try.prog 63 #[.slice a n cap, .int .i64 left] w fun e w' => e = .returned (.int .i64 (if (n : Int) ≤ left then left - n else -1)) ∧ w' = w := by
 unfold maxLen at hn
 by_cases h : (n : Int) ≤ left
 ·go_enter Try.func63, Try.ntmps63
  go_wp2
  go_ret
  exact ⟨rfl, rfl⟩
 ·go_enter Try.func63, Try.ntmps63
  go_wp2
  go_ret
  exact ⟨rfl, rfl⟩

def eqMsgB (a b c a' b' c' : Int) : Bool := decide (a = a' ∧ b = b' ∧ c = c')
theorem eqMsgB_true {a b c d e f : Int} (h : eqMsgB a b c d e f = true) : a = d ∧ b = e ∧ c = f := by simpa [eqMsgB] using h
theorem ne_of_eqMsgB {l1 l2 : ML} {k : Nat} (h : eqMsgB (mO l1 k) (mK l1 k) (mV l1 k) (mO l2 k) (mK l2 k) (mV l2 k) = false) : l1 ≠ l2 := by
 intro e; subst e; simp [eqMsgB] at h

theorem eqMsg_any (a b c d e f : Int) (w : World) :
  Calls Try.prog 55 #[.agg #[.int .i64 a, .int .i64 b, .int .i64 c], .agg #[.int .i64 d, .int .i64 e, .int .i64 f]] w fun r w' => r = .returned (.bool (eqMsgB a b c d e f)) ∧ Below w.heap.size w w' := by
 go_enter Try.func55, Try.ntmps55
 go_wp2
 all_goals (go_ret; refine ⟨ret_bool ?_, ((Below.refl _ _).alloc (Nat.le_refl _) _).alloc (by simp) _⟩; simp_all [eqMsgB])

theorem eqMsgS_any (v1 v2 : Value) (l1 l2 : ML) (w : World) (h1 : Row w v1 l1.length (flatM l1)) (h2 : Row w v2 l2.length (flatM l2)) :
  Calls Try.prog 69 #[v1, v2] w fun e w' => e = .returned (.bool (decide (l1 = l2))) ∧ Below w.heap.size w w' := by
 obtain ⟨a, b, off, cap, rfl, hcap, hmax, ha, ho, hk, hv⟩ := h1.msgs
 obtain ⟨a2, b2, off2, cap2, rfl, hcap2, hmax2, ha2, ho2, hk2, hv2⟩ := h2.msgs
 unfold maxLen at hmax hmax2
 by_cases hl : l1.length = l2.length
 ·have hne : ((l1.length : Int) != (l2.length : Int)) = false := by rw [bne_eq_false_iff_eq]; omega
  have HL : Hid (l1.length = l2.length) := hl
  have hl2 : l1.length ≤ l2.length := by omega
  clear hl
  go_enter Try.func69, Try.ntmps69
  go_wp2
  go_loopw [5] (fun i wr => ∃ k : Nat, k ≤ l1.length ∧ i = .int .i64 k ∧ (∀ i, i < k → mO l1 i = mO l2 i ∧ mK l1 i = mK l2 i ∧ mV l1 i = mV l2 i) ∧ Below w.heap.size w wr)
   (fun i _ => l1.length - (intOf i).toNat)
  case atStart => exact ⟨0, Nat.zero_le _, rfl, fun i hi => absurd hi (Nat.not_lt_zero _), Below.refl _ _⟩
  case round =>
   obtain ⟨k, hkl, rfl, hall, hb⟩ := hrel
   have ALL : Hid (∀ i, i < k → mO l1 i = mO l2 i ∧ mK l1 i = mK l2 i ∧ mV l1 i = mV l2 i) := hall
   clear hall
   by_cases hlt : k < l1.length
   ·have hal := ha (by omega)
    subst hal
    have hal2 := ha2 (by omega)
    subst hal2
    have hlt2 : k < l2.length := by omega
    have d0 := (hb.cell (by exact cell_lt (ho k hlt))).trans (ho k hlt)
    have d1 := (hb.cell (by exact cell_lt (hk k hlt))).trans (hk k hlt)
    have d2 := (hb.cell (by exact cell_lt (hv k hlt))).trans (hv k hlt)
    have d3 := (hb.cell (by exact cell_lt (ho2 k hlt2))).trans (ho2 k hlt2)
    have d4 := (hb.cell (by exact cell_lt (hk2 k hlt2))).trans (hk2 k hlt2)
    have d5 := (hb.cell (by exact cell_lt (hv2 k hlt2))).trans (hv2 k hlt2)
    clear ho hk hv ha ho2 hk2 hv2 ha2
    go_wp2_with fail
    cases hq : eqMsgB (mO l1 k) (mK l1 k) (mV l1 k) (mO l2 k) (mK l2 k) (mV l2 k)
    ·have NE : Hid (decide (l1 = l2) = false) := decide_eq_false (ne_of_eqMsgB hq)
     go_region_with (go_at_call 55; refine (eqMsg_any _ _ _ _ _ _ _).mono ?_; rintro e w1 ⟨rfl, hb1⟩)
     all_goals
      go_wp2
      go_ret
      exact ⟨ret_bool NE.out.symm, hb.drew.trans (hb1.mono hb.size)⟩
    ·have EQ : Hid (mO l1 k = mO l2 k ∧ mK l1 k = mK l2 k ∧ mV l1 k = mV l2 k) := eqMsgB_true hq
     go_region_with (go_at_call 55; refine (eqMsg_any _ _ _ _ _ _ _).mono ?_; rintro e w1 ⟨rfl, hb1⟩)
     all_goals
      go_wp2
      go_roundw
      case rel => exact ⟨k + 1, by omega, by go_num, fun i hi => if h : i < k then ALL.out i h else by rw [show i = k by omega]; exact EQ.out, hb.drew.trans (hb1.mono hb.size)⟩
      case measure => simp [intOf]; omega
   ·go_wp2
    go_ret
    refine ⟨ret_bool ?_, hb⟩
    symm
    rw [decide_eq_true_iff]
    exact ml_ext HL.out (fun i hi => ALL.out i (by omega))
 ·have hne : ((l1.length : Int) != (l2.length : Int)) = true := by rw [bne_iff_ne]; omega
  go_enter Try.func69, Try.ntmps69
  go_wp2
  go_ret
  refine ⟨ret_bool ?_, Below.refl _ _⟩
  symm
  rw [decide_eq_false_iff_not]
  intro h; exact hl (by rw [h])

theorem Try.info47 : (Try.prog.info? 47).map (fun i => (i.zero, i.size, i.bytes)) = some (some (.agg #[.int .i64 0, .int .i64 0, .int .i64 0]), 3, 24) := by kernel_rfl

def filledM (l : ML) (k : Nat) : ML := l.take k ++ List.replicate (l.length - k) (0, 0, 0)
theorem filledM_length (l : ML) (k : Nat) (hk : k ≤ l.length) : (filledM l k).length = l.length := by simp [filledM]; omega
theorem filledM_full (l : ML) : filledM l l.length = l := by simp [filledM]
theorem flatM_zero (n : Nat) : flatM (List.replicate n (0, 0, 0)) = List.replicate (n * 3) (.int .i64 0) := by
 induction n with
 | zero => rfl
 | succ n ih => rw [List.replicate_succ, flatM_cons, ih, show (n + 1) * 3 = n * 3 + 1 + 1 + 1 by omega]; simp [List.replicate_succ]
theorem filledM_step (l : ML) (k : Nat) (hk : k < l.length) : (filledM l k).set k (mO l k, mK l k, mV l k) = filledM l (k + 1) := by
 obtain ⟨m, hm⟩ : ∃ m, l.length - k = m + 1 := ⟨l.length - k - 1, by omega⟩
 rw [filledM, filledM, take_succM l k hk, hm, show l.length - (k + 1) = m by omega, List.replicate_succ, List.set_append_right _ _ (by simp; omega)]
 simp [show min k l.length = k by omega]

theorem toMsgS_any (v : Value) (l : ML) (w : World) (hr : Row w v l.length (flatM l)) (hn : l.length ≤ 1048576) :
  Calls Try.prog 66 #[v] w fun e w' => ∃ v', e = .returned v' ∧ w'.ownsRow w.heap.size 47 3 v' l.length (flatM l) ∧ Below w.heap.size w w' := by
 obtain ⟨a, b, off, cap, rfl, hcap, hmax, ha, ho, hk, hv⟩ := hr.msgs
 obtain ⟨i0, hi, hz0, hz1, hz2⟩ := info_parts Try.info47
 unfold maxLen at hmax
 go_enter Try.func66, Try.ntmps66
 go_wp2_with (at_make; refine wpList_make_full _ rfl _ _ 88 rfl w.heap.size 47 i0 _ 3 Try.underlying88 hi hz0 hz1 .i64 .i64 _ _ l.length rfl rfl rfl rfl ?c1 ?c2 ?c3 ?_)
 case c1 => rw [hz2]; omega
 case c2 => unfold maxLen; omega
 case c3 => exact Nat.le_refl _
 intro w0 hown0 hgrow0
 have hb0 : Below w.heap.size w w0 := (Below.refl _ _).grown hgrow0 (Nat.le_refl _) (fun k hk => by cases hk)
 clear hgrow0
 go_wp2
 go_loopw [4] (fun i wr => ∃ k : Nat, k ≤ l.length ∧ i = .int .i64 k ∧ wr.ownsRow w.heap.size 47 3 (.slice (some ⟨w.heap.size, 0, none⟩) l.length l.length) l.length (flatM (filledM l k)) ∧ Below w.heap.size w wr)
  (fun i _ => l.length - (intOf i).toNat)
 case atStart => exact ⟨0, Nat.zero_le _, rfl, by rw [madeCells_all _ (.int .i64 0) (by decide) (fun i hi => by match i, hi with | 0, _ => rfl | 1, _ => rfl | 2, _ => rfl)] at hown0; rw [show filledM l 0 = List.replicate l.length (0, 0, 0) by simp [filledM], flatM_zero]; exact hown0, hb0⟩
 case round =>
  obtain ⟨k, hkl, rfl, hown, hb⟩ := hrel
  clear hown0 hb0
  by_cases hlt : k < l.length
  ·have hal := ha (by omega)
   subst hal
   have d0 := (hb.cell (by exact cell_lt (ho k hlt))).trans (ho k hlt)
   have d1 := (hb.cell (by exact cell_lt (hk k hlt))).trans (hk k hlt)
   have d2 := (hb.cell (by exact cell_lt (hv k hlt))).trans (hv k hlt)
   clear ho hk hv ha
   go_wp2_with fail
   refine (toMsg_any _ _ _ _).mono ?_
   rintro e w1 ⟨rfl, hb1⟩
   have own1 := owns_below hown hb1
   have hfl : (filledM l k).length = l.length := filledM_length l k hkl
   have hat := flatM_at (filledM l k) k (by omega)
   have e0 := (own1.cellAt (k * 3) (by omega)).trans hat.1
   have e1 := (own1.cellAt (k * 3 + 1) (by omega)).trans hat.2.1
   have e2 := (own1.cellAt (k * 3 + 2) (by omega)).trans hat.2.2
   have f0 := own1.frozenAt (k * 3)
   have f1 := own1.frozenAt (k * 3 + 1)
   have f2 := own1.frozenAt (k * 3 + 2)
   have st := (own1.stored (k * 3) (.int .i64 (mO l k))).1
   have st2 := (st.stored (k * 3 + 1) (.int .i64 (mK l k))).1
   have st3 := (st2.stored (k * 3 + 2) (.int .i64 (mV l k))).1
   rw [flatM_set _ _ _ _ k (by omega), filledM_step l k hlt] at st3
   have hb2 : Below w.heap.size w w1 := hb.trans (hb1.mono hb.size)
   generalize mO (filledM l k) k = x0 at *
   generalize mK (filledM l k) k = x1 at *
   generalize mV (filledM l k) k = x2 at *
   have ST : Hid _ := st3
   clear st st2 st3 hown hb1 d0 d1 d2 own1 hat hfl hr
   go_wp2
   go_roundw
   case rel => exact ⟨k + 1, by omega, by go_num, ST.out, ((hb2.setCell (Nat.le_refl _) _).setCell (Nat.le_refl _) _).setCell (Nat.le_refl _) _⟩
   case measure => simp [intOf]; omega
  ·go_wp2
   go_ret
   have hkk : k = l.length := by omega
   subst hkk
   rw [filledM_full] at hown
   exact ⟨_, rfl, hown, hb⟩
end
section
open Go.RowKit

abbrev Dn := Int × Int × Int × Bool
abbrev DL := List Dn
abbrev dn0 : Dn := (0, 0, 0, false)
def dC (l : DL) (i : Nat) : Int := (l.getD i dn0).1
def dS (l : DL) (i : Nat) : Int := (l.getD i dn0).2.1
def dV (l : DL) (i : Nat) : Int := (l.getD i dn0).2.2.1
def dH (l : DL) (i : Nat) : Bool := (l.getD i dn0).2.2.2
theorem dl_at (l : DL) (i : Nat) (h : i < l.length) : l[i] = (dC l i, dS l i, dV l i, dH l i) := by simp [dC, dS, dV, dH, List.getD, h]
theorem dl_ext {l1 l2 : DL} (hl : l1.length = l2.length) (h : ∀ i, i < l1.length → dC l1 i = dC l2 i ∧ dS l1 i = dS l2 i ∧ dV l1 i = dV l2 i ∧ dH l1 i = dH l2 i) : l1 = l2 := by
 apply List.ext_getElem hl
 intro i h1 h2
 rw [dl_at l1 i h1, dl_at l2 i h2, (h i h1).1, (h i h1).2.1, (h i h1).2.2.1, (h i h1).2.2.2]
theorem take_succD (l : DL) (k : Nat) (hk : k < l.length) : l.take (k + 1) = l.take k ++ [(dC l k, dS l k, dV l k, dH l k)] := by
 rw [List.take_succ_eq_append_getElem hk, dl_at l k hk]

def flatD (l : DL) : List Value := l.flatMap fun m => [.int .i64 m.1, .int .i64 m.2.1, .int .i64 m.2.2.1, .bool m.2.2.2]
theorem flatD_cons (m : Dn) (l : DL) : flatD (m :: l) = .int .i64 m.1 :: .int .i64 m.2.1 :: .int .i64 m.2.2.1 :: .bool m.2.2.2 :: flatD l := rfl
theorem flatD_length (l : DL) : (flatD l).length = l.length * 4 := by
 induction l with
 | nil => rfl
 | cons a l ih => rw [flatD_cons]; simp only [List.length_cons]; omega
theorem flatD_at (l : DL) : ∀ i, i < l.length → (flatD l)[i * 4]? = some (.int .i64 (dC l i)) ∧ (flatD l)[i * 4 + 1]? = some (.int .i64 (dS l i)) ∧ (flatD l)[i * 4 + 2]? = some (.int .i64 (dV l i)) ∧ (flatD l)[i * 4 + 3]? = some (.bool (dH l i)) := by
 induction l with
 | nil => intro i h; simp at h
 | cons a l ih =>
  intro i h
  cases i with
  | zero => simp [flatD_cons, dC, dS, dV, dH]
  | succ i =>
   have := ih i (by simpa using h)
   have e1 : (i + 1) * 4 = i * 4 + 1 + 1 + 1 + 1 := by omega
   have e2 : (i + 1) * 4 + 1 = (i * 4 + 1) + 1 + 1 + 1 + 1 := by omega
   have e3 : (i + 1) * 4 + 2 = (i * 4 + 2) + 1 + 1 + 1 + 1 := by omega
   have e4 : (i + 1) * 4 + 3 = (i * 4 + 3) + 1 + 1 + 1 + 1 := by omega
   rw [e4, e3, e2, e1, flatD_cons]
   simpa [dC, dS, dV, dH] using this
theorem flatD_set (l : DL) (a b c : Int) (d : Bool) : ∀ i, i < l.length → ((((flatD l).set (i * 4) (.int .i64 a)).set (i * 4 + 1) (.int .i64 b)).set (i * 4 + 2) (.int .i64 c)).set (i * 4 + 3) (.bool d) = flatD (l.set i (a, b, c, d)) := by
 induction l with
 | nil => intro i h; simp at h
 | cons p l ih =>
  intro i h
  cases i with
  | zero => simp [flatD_cons]
  | succ i =>
   have := ih i (by simpa using h)
   rw [flatD_cons, List.set_cons_succ, flatD_cons, show (i + 1) * 4 + 3 = (i * 4 + 3) + 1 + 1 + 1 + 1 by omega, show (i + 1) * 4 + 2 = (i * 4 + 2) + 1 + 1 + 1 + 1 by omega, show (i + 1) * 4 = i * 4 + 1 + 1 + 1 + 1 by omega]
   simp only [List.set_cons_succ]
   rw [this]

theorem Row.dones {w : World} {v : Value} {l : DL} (h : Row w v l.length (flatD l)) :
  ∃ (a : Option Addr) (b off cap : Nat), v = .slice a l.length cap ∧ l.length ≤ cap ∧ cap ≤ maxLen ∧ (0 < l.length → a = some ⟨b, off, none⟩) ∧
   (∀ i, i < l.length → w.cell? ⟨b, off + i * 4, none⟩ = some (.int .i64 (dC l i))) ∧ (∀ i, i < l.length → w.cell? ⟨b, off + i * 4 + 1, none⟩ = some (.int .i64 (dS l i))) ∧ (∀ i, i < l.length → w.cell? ⟨b, off + i * 4 + 2, none⟩ = some (.int .i64 (dV l i))) ∧ (∀ i, i < l.length → w.cell? ⟨b, off + i * 4 + 3, none⟩ = some (.bool (dH l i))) := by
 obtain ⟨a, b, off, cap, h1, h2, h3, h4, h5, _⟩ := h
 exact ⟨a, b, off, cap, h1, h2, h3, h4, fun i hi => h5 _ _ (flatD_at l i hi).1, fun i hi => h5 _ _ (flatD_at l i hi).2.1, fun i hi => h5 _ _ (flatD_at l i hi).2.2.1, fun i hi => h5 _ _ (flatD_at l i hi).2.2.2⟩

theorem szDoneS_any (a : Option Addr) (n cap : Nat) (left : Int) (hn : n ≤ maxLen) (hl : 0 ≤ left) (hl2 : left ≤ 1048576) (w : World) :
  Calls Try.prog 12 #[.slice a n cap, .int .i64 left] w fun e w' => e = .returned (.int .i64 (if (n : Int) ≤ left then left - n else -1)) ∧ w' = w := by
 unfold maxLen at hn
 by_cases h : (n : Int) ≤ left
 ·go_enter Try.func12, Try.ntmps12
  go_wp2
  go_ret
  exact ⟨rfl, rfl⟩
 ·go_enter Try.func12, Try.ntmps12
  go_wp2
  go_ret
  exact ⟨rfl, rfl⟩

def eqDoneB (p q : Dn) : Bool := decide (p = q)
theorem ne_of_eqDoneB {l1 l2 : DL} {k : Nat} (h : eqDoneB (dC l1 k, dS l1 k, dV l1 k, dH l1 k) (dC l2 k, dS l2 k, dV l2 k, dH l2 k) = false) : l1 ≠ l2 := by
 intro e; subst e; simp [eqDoneB] at h
abbrev dnV (a b c : Int) (d : Bool) : Value := .agg #[.int .i64 a, .int .i64 b, .int .i64 c, .bool d]

theorem eqDone_any (a b c : Int) (d : Bool) (a2 b2 c2 : Int) (d2 : Bool) (w : World) :
  Calls Try.prog 37 #[dnV a b c d, dnV a2 b2 c2 d2] w fun r w' => r = .returned (.bool (eqDoneB (a, b, c, d) (a2, b2, c2, d2))) ∧ Below w.heap.size w w' := by
 cases d <;> cases d2 <;>
 ·go_enter Try.func37, Try.ntmps37
  go_wp2
  all_goals (go_ret; refine ⟨ret_bool ?_, ((Below.refl _ _).alloc (Nat.le_refl _) _).alloc (by simp) _⟩; simp_all [eqDoneB])

theorem eqDoneS_any (v1 v2 : Value) (l1 l2 : DL) (w : World) (h1 : Row w v1 l1.length (flatD l1)) (h2 : Row w v2 l2.length (flatD l2)) :
  Calls Try.prog 25 #[v1, v2] w fun e w' => e = .returned (.bool (decide (l1 = l2))) ∧ Below w.heap.size w w' := by
 obtain ⟨a, b, off, cap, rfl, hcap, hmax, ha, ho, hk, hv, hh⟩ := h1.dones
 obtain ⟨a2, b2, off2, cap2, rfl, hcap2, hmax2, ha2, ho2, hk2, hv2, hh2⟩ := h2.dones
 unfold maxLen at hmax hmax2
 by_cases hl : l1.length = l2.length
 ·have hne : ((l1.length : Int) != (l2.length : Int)) = false := by rw [bne_eq_false_iff_eq]; omega
  have HL : Hid (l1.length = l2.length) := hl
  have hl2 : l1.length ≤ l2.length := by omega
  clear hl
  go_enter Try.func25, Try.ntmps25
  go_wp2
  go_loopw [5] (fun i wr => ∃ k : Nat, k ≤ l1.length ∧ i = .int .i64 k ∧ (∀ i, i < k → dC l1 i = dC l2 i ∧ dS l1 i = dS l2 i ∧ dV l1 i = dV l2 i ∧ dH l1 i = dH l2 i) ∧ Below w.heap.size w wr)
   (fun i _ => l1.length - (intOf i).toNat)
  case atStart => exact ⟨0, Nat.zero_le _, rfl, fun i hi => absurd hi (Nat.not_lt_zero _), Below.refl _ _⟩
  case round =>
   obtain ⟨k, hkl, rfl, hall, hb⟩ := hrel
   have ALL : Hid (∀ i, i < k → dC l1 i = dC l2 i ∧ dS l1 i = dS l2 i ∧ dV l1 i = dV l2 i ∧ dH l1 i = dH l2 i) := hall
   clear hall
   by_cases hlt : k < l1.length
   ·have hal := ha (by omega)
    subst hal
    have hal2 := ha2 (by omega)
    subst hal2
    have hlt2 : k < l2.length := by omega
    have d0 := (hb.cell (by exact cell_lt (ho k hlt))).trans (ho k hlt)
    have d1 := (hb.cell (by exact cell_lt (hk k hlt))).trans (hk k hlt)
    have d2 := (hb.cell (by exact cell_lt (hv k hlt))).trans (hv k hlt)
    have d6 := (hb.cell (by exact cell_lt (hh k hlt))).trans (hh k hlt)
    have d3 := (hb.cell (by exact cell_lt (ho2 k hlt2))).trans (ho2 k hlt2)
    have d4 := (hb.cell (by exact cell_lt (hk2 k hlt2))).trans (hk2 k hlt2)
    have d5 := (hb.cell (by exact cell_lt (hv2 k hlt2))).trans (hv2 k hlt2)
    have d7 := (hb.cell (by exact cell_lt (hh2 k hlt2))).trans (hh2 k hlt2)
    clear ho hk hv hh ha ho2 hk2 hv2 hh2 ha2
    go_wp2_with fail
    cases hq : eqDoneB (dC l1 k, dS l1 k, dV l1 k, dH l1 k) (dC l2 k, dS l2 k, dV l2 k, dH l2 k)
    ·have NE : Hid (decide (l1 = l2) = false) := decide_eq_false (ne_of_eqDoneB hq)
     go_region_with (go_at_call 37; refine (eqDone_any _ _ _ _ _ _ _ _ _).mono ?_; rintro e w1 ⟨rfl, hb1⟩)
     all_goals
      go_wp2
      go_ret
      exact ⟨ret_bool NE.out.symm, hb.drew.trans (hb1.mono hb.size)⟩
    ·have EQ : Hid (dC l1 k = dC l2 k ∧ dS l1 k = dS l2 k ∧ dV l1 k = dV l2 k ∧ dH l1 k = dH l2 k) := by show _ ∧ _; simpa [eqDoneB] using hq
     go_region_with (go_at_call 37; refine (eqDone_any _ _ _ _ _ _ _ _ _).mono ?_; rintro e w1 ⟨rfl, hb1⟩)
     all_goals
      go_wp2
      go_roundw
      case rel => exact ⟨k + 1, by omega, by go_num, fun i hi => if h : i < k then ALL.out i h else by rw [show i = k by omega]; exact EQ.out, hb.drew.trans (hb1.mono hb.size)⟩
      case measure => simp [intOf]; omega
   ·go_wp2
    go_ret
    refine ⟨ret_bool ?_, hb⟩
    symm
    rw [decide_eq_true_iff]
    exact dl_ext HL.out (fun i hi => ALL.out i (by omega))
 ·have hne : ((l1.length : Int) != (l2.length : Int)) = true := by rw [bne_iff_ne]; omega
  go_enter Try.func25, Try.ntmps25
  go_wp2
  go_ret
  refine ⟨ret_bool ?_, Below.refl _ _⟩
  symm
  rw [decide_eq_false_iff_not]
  intro h; exact hl (by rw [h])

theorem Try.info104 : (Try.prog.info? 104).map (fun i => (i.zero, i.size, i.bytes)) = some (some (.agg #[.int .i64 0, .int .i64 0, .int .i64 0, .bool false]), 4, 32) := by kernel_rfl

def filledD (l : DL) (k : Nat) : DL := l.take k ++ List.replicate (l.length - k) dn0
theorem filledD_length (l : DL) (k : Nat) (hk : k ≤ l.length) : (filledD l k).length = l.length := by simp [filledD]; omega
theorem filledD_full (l : DL) : filledD l l.length = l := by simp [filledD]
theorem filledD_step (l : DL) (k : Nat) (hk : k < l.length) : (filledD l k).set k (dC l k, dS l k, dV l k, dH l k) = filledD l (k + 1) := by
 obtain ⟨m, hm⟩ : ∃ m, l.length - k = m + 1 := ⟨l.length - k - 1, by omega⟩
 rw [filledD, filledD, take_succD l k hk, hm, show l.length - (k + 1) = m by omega, List.replicate_succ, List.set_append_right _ _ (by simp; omega)]
 simp [show min k l.length = k by omega]
theorem madeCells_done (n : Nat) : (madeCells #[.int .i64 0, .int .i64 0, .int .i64 0, .bool false] (n * 4)).toList = flatD (List.replicate n dn0) := by
 apply List.ext_getElem?
 intro j
 by_cases hj : j < n * 4
 ·have hat := flatD_at (List.replicate n dn0) (j / 4) (by simp; omega)
  have h1 : dC (List.replicate n dn0) (j / 4) = 0 := by simp [dC, List.getD, show j / 4 < n by omega]
  have h2 : dS (List.replicate n dn0) (j / 4) = 0 := by simp [dS, List.getD, show j / 4 < n by omega]
  have h3 : dV (List.replicate n dn0) (j / 4) = 0 := by simp [dV, List.getD, show j / 4 < n by omega]
  have h4 : dH (List.replicate n dn0) (j / 4) = false := by simp [dH, List.getD, show j / 4 < n by omega]
  rw [h1, h2, h3, h4] at hat
  rcases (show j % 4 = 0 ∨ j % 4 = 1 ∨ j % 4 = 2 ∨ j % 4 = 3 by omega) with e | e | e | e
  ·have : j / 4 * 4 = j := by omega
   rw [this] at hat
   rw [hat.1]
   simp [madeCells, hj, e]
  ·have : j / 4 * 4 + 1 = j := by omega
   rw [this] at hat
   rw [hat.2.1]
   simp [madeCells, hj, e]
  ·have : j / 4 * 4 + 2 = j := by omega
   rw [this] at hat
   rw [hat.2.2.1]
   simp [madeCells, hj, e]
  ·have : j / 4 * 4 + 3 = j := by omega
   rw [this] at hat
   rw [hat.2.2.2]
   simp [madeCells, hj, e]
 ·have : (flatD (List.replicate n dn0))[j]? = none := by
   rw [List.getElem?_eq_none_iff, flatD_length]; simp; omega
  rw [this]
  simp [madeCells, hj]

theorem toDone_any (a b c : Int) (d : Bool) (w : World) :
  Calls Try.prog 32 #[dnV a b c d] w fun e w' => e = .returned (dnV a b c d) ∧ Below w.heap.size w w' := by
 go_enter Try.func32, Try.ntmps32
 go_wp2
 refine bodyPost_ret (v := dnV a b c d) (by simp [results, Try.results32, go_sem]) rfl ⟨rfl, ?_⟩
 exact (((Below.refl _ _).alloc (Nat.le_refl _) _).alloc (by simp) _).alloc (by simp; omega) _

theorem toDoneS_any (v : Value) (l : DL) (w : World) (hr : Row w v l.length (flatD l)) (hn : l.length ≤ 1048576) :
  Calls Try.prog 17 #[v] w fun e w' => ∃ v', e = .returned v' ∧ w'.ownsRow w.heap.size 104 4 v' l.length (flatD l) ∧ Below w.heap.size w w' := by
 obtain ⟨a, b, off, cap, rfl, hcap, hmax, ha, ho, hk, hv, hh⟩ := hr.dones
 obtain ⟨i0, hi, hz0, hz1, hz2⟩ := info_parts Try.info104
 unfold maxLen at hmax
 go_enter Try.func17, Try.ntmps17
 go_wp2_with (at_make; refine wpList_make_full _ rfl _ _ 34 rfl w.heap.size 104 i0 _ 4 Try.underlying34 hi hz0 hz1 .i64 .i64 _ _ l.length rfl rfl rfl rfl ?c1 ?c2 ?c3 ?_)
 case c1 => rw [hz2]; omega
 case c2 => unfold maxLen; omega
 case c3 => exact Nat.le_refl _
 intro w0 hown0 hgrow0
 have hb0 : Below w.heap.size w w0 := (Below.refl _ _).grown hgrow0 (Nat.le_refl _) (fun k hk => by cases hk)
 clear hgrow0
 go_wp2
 go_loopw [4] (fun i wr => ∃ k : Nat, k ≤ l.length ∧ i = .int .i64 k ∧ wr.ownsRow w.heap.size 104 4 (.slice (some ⟨w.heap.size, 0, none⟩) l.length l.length) l.length (flatD (filledD l k)) ∧ Below w.heap.size w wr)
  (fun i _ => l.length - (intOf i).toNat)
 case atStart => exact ⟨0, Nat.zero_le _, rfl, by rw [show (madeCells _ (l.length * 4)).toList = flatD (List.replicate l.length dn0) from madeCells_done l.length] at hown0; rw [show filledD l 0 = List.replicate l.length dn0 by simp [filledD]]; exact hown0, hb0⟩
 case round =>
  obtain ⟨k, hkl, rfl, hown, hb⟩ := hrel
  clear hown0 hb0
  by_cases hlt : k < l.length
  ·have hal := ha (by omega)
   subst hal
   have d0 := (hb.cell (by exact cell_lt (ho k hlt))).trans (ho k hlt)
   have d1 := (hb.cell (by exact cell_lt (hk k hlt))).trans (hk k hlt)
   have d2 := (hb.cell (by exact cell_lt (hv k hlt))).trans (hv k hlt)
   have d3 := (hb.cell (by exact cell_lt (hh k hlt))).trans (hh k hlt)
   clear ho hk hv hh ha
   go_wp2_with fail
   refine (toDone_any _ _ _ _ _).mono ?_
   rintro e w1 ⟨rfl, hb1⟩
   have own1 := owns_below hown hb1
   have hfl : (filledD l k).length = l.length := filledD_length l k hkl
   have hat := flatD_at (filledD l k) k (by omega)
   have e0 := (own1.cellAt (k * 4) (by omega)).trans hat.1
   have e1 := (own1.cellAt (k * 4 + 1) (by omega)).trans hat.2.1
   have e2 := (own1.cellAt (k * 4 + 2) (by omega)).trans hat.2.2.1
   have e3 := (own1.cellAt (k * 4 + 3) (by omega)).trans hat.2.2.2
   have f0 := own1.frozenAt (k * 4)
   have f1 := own1.frozenAt (k * 4 + 1)
   have f2 := own1.frozenAt (k * 4 + 2)
   have f3 := own1.frozenAt (k * 4 + 3)
   have st := (own1.stored (k * 4) (.int .i64 (dC l k))).1
   have st2 := (st.stored (k * 4 + 1) (.int .i64 (dS l k))).1
   have st3 := (st2.stored (k * 4 + 2) (.int .i64 (dV l k))).1
   have st4 := (st3.stored (k * 4 + 3) (.bool (dH l k))).1
   rw [flatD_set _ _ _ _ _ k (by omega), filledD_step l k hlt] at st4
   have hb2 : Below w.heap.size w w1 := hb.trans (hb1.mono hb.size)
   generalize dC (filledD l k) k = x0 at *
   generalize dS (filledD l k) k = x1 at *
   generalize dV (filledD l k) k = x2 at *
   generalize dH (filledD l k) k = x3 at *
   have ST : Hid _ := st4
   clear st st2 st3 st4 hown hb1 d0 d1 d2 d3 own1 hat hfl hr
   go_wp2
   go_roundw
   case rel => exact ⟨k + 1, by omega, by go_num, ST.out, (((hb2.setCell (Nat.le_refl _) _).setCell (Nat.le_refl _) _).setCell (Nat.le_refl _) _).setCell (Nat.le_refl _) _⟩
   case measure => simp [intOf]; omega
  ·go_wp2
   go_ret
   have hkk : k = l.length := by omega
   subst hkk
   rw [filledD_full] at hown
   exact ⟨_, rfl, hown, hb⟩
end
section
open Go.RowKit

theorem bel_nw (w : World) (o : Obj) : Below w.heap.size w (w.alloc o) := (Below.refl _ _).alloc (Nat.le_refl _) _
def MBox (t : TypeId) (w : World) (B : Nat) (A : Array Value) : Prop := w.heap[B]? = some (.cells A t (0, 0))
theorem MBox.start (t : TypeId) (w : World) (A : Array Value) : MBox t (w.alloc (.cells A t)) w.heap.size A := heap_alloc_new w _
theorem MBox.step {t : TypeId} {w w' : World} {B : Nat} {A : Array Value} (h : MBox t w B A) (hb : Below w.heap.size w w') : MBox t w' B A := (hb.block B (Array.getElem?_eq_some_iff.1 h).1).trans h
theorem MBox.cells {t : TypeId} {w : World} {B : Nat} {A : Array Value} (h : MBox t w B A) : ∀ j, w.cell? ⟨B, j, none⟩ = A[j]? := fun j => cell_of_row _ _ j _ t (0, 0) h
end
end Go.Proofs.Ythfmifdpldmbaaa
