/-
  Entries of a log as rows of cells; the laws' own functions on them.
  The program's MsgOk: with this folder's texts it stands in Msg.
  Commands: toCmd, CmdOk of both sides, the walk of the law FnExactCmdOk.
  toEntry, toEntryS: entries copied out of the law's own kind.
  Logs in memory: the laws' own functions on them (szLog, toLog, eqLog).
  Lists of truths: the laws' functions on them.
-/
import Derived.Test.YtdcladffnjikkaaOfWn1
import Derived.Test.YtdcladffnjikkaaOfWn2
import Derived.Deep.RegionHeld3
import Derived.Deep.QuietTactic
import Derived.BigQuiet
namespace Go.Proofs.Ytdcladffnjikkaa
set_option maxRecDepth 100000
set_option maxHeartbeats 8000000
section
open Go.RowKit

abbrev En := Int × Int × Int × Int × Int × Int
abbrev EL := List En
abbrev en0 : En := (0, 0, 0, 0, 0, 0)
def eT (l : EL) (i : Nat) : Int := (l.getD i en0).1
def eC (l : EL) (i : Nat) : Int := (l.getD i en0).2.1
def eS (l : EL) (i : Nat) : Int := (l.getD i en0).2.2.1
def eO (l : EL) (i : Nat) : Int := (l.getD i en0).2.2.2.1
def eK (l : EL) (i : Nat) : Int := (l.getD i en0).2.2.2.2.1
def eV (l : EL) (i : Nat) : Int := (l.getD i en0).2.2.2.2.2
theorem el_at (l : EL) (i : Nat) (h : i < l.length) : l[i] = (eT l i, eC l i, eS l i, eO l i, eK l i, eV l i) := by simp [eT, eC, eS, eO, eK, eV, List.getD, h]
theorem el_ext {l1 l2 : EL} (hl : l1.length = l2.length) (h : ∀ i, i < l1.length → eT l1 i = eT l2 i ∧ eC l1 i = eC l2 i ∧ eS l1 i = eS l2 i ∧ eO l1 i = eO l2 i ∧ eK l1 i = eK l2 i ∧ eV l1 i = eV l2 i) : l1 = l2 := by
 apply List.ext_getElem hl
 intro i h1 h2
 rw [el_at l1 i h1, el_at l2 i h2, (h i h1).1, (h i h1).2.1, (h i h1).2.2.1, (h i h1).2.2.2.1, (h i h1).2.2.2.2.1, (h i h1).2.2.2.2.2]
def flatE (l : EL) : List Value := l.flatMap fun m => [.int .i64 m.1, .int .i64 m.2.1, .int .i64 m.2.2.1, .int .i64 m.2.2.2.1, .int .i64 m.2.2.2.2.1, .int .i64 m.2.2.2.2.2]
theorem flatE_cons (m : En) (l : EL) : flatE (m :: l) = .int .i64 m.1 :: .int .i64 m.2.1 :: .int .i64 m.2.2.1 :: .int .i64 m.2.2.2.1 :: .int .i64 m.2.2.2.2.1 :: .int .i64 m.2.2.2.2.2 :: flatE l := rfl
theorem flatE_at (l : EL) : ∀ i, i < l.length → (flatE l)[i * 6]? = some (.int .i64 (eT l i)) ∧ (flatE l)[i * 6 + 1]? = some (.int .i64 (eC l i)) ∧ (flatE l)[i * 6 + 2]? = some (.int .i64 (eS l i)) ∧ (flatE l)[i * 6 + 3]? = some (.int .i64 (eO l i)) ∧ (flatE l)[i * 6 + 4]? = some (.int .i64 (eK l i)) ∧ (flatE l)[i * 6 + 5]? = some (.int .i64 (eV l i)) := by
 induction l with
 | nil => intro i h; simp at h
 | cons a l ih =>
  intro i h
  cases i with
  | zero => simp [flatE_cons, eT, eC, eS, eO, eK, eV]
  | succ i =>
   have := ih i (by simpa using h)
   have e0 : (i + 1) * 6 = (i * 6) + 1 + 1 + 1 + 1 + 1 + 1 := by omega
   have e1 : (i + 1) * 6 + 1 = (i * 6 + 1) + 1 + 1 + 1 + 1 + 1 + 1 := by omega
   have e2 : (i + 1) * 6 + 2 = (i * 6 + 2) + 1 + 1 + 1 + 1 + 1 + 1 := by omega
   have e3 : (i + 1) * 6 + 3 = (i * 6 + 3) + 1 + 1 + 1 + 1 + 1 + 1 := by omega
   have e4 : (i + 1) * 6 + 4 = (i * 6 + 4) + 1 + 1 + 1 + 1 + 1 + 1 := by omega
   have e5 : (i + 1) * 6 + 5 = (i * 6 + 5) + 1 + 1 + 1 + 1 + 1 + 1 := by omega
   rw [e5, e4, e3, e2, e1, e0, flatE_cons]
   simpa [eT, eC, eS, eO, eK, eV] using this
theorem flatE_set (l : EL) (x0 x1 x2 x3 x4 x5 : Int) : ∀ i, i < l.length → ((((((flatE l).set (i * 6) (.int .i64 x0)).set (i * 6 + 1) (.int .i64 x1)).set (i * 6 + 2) (.int .i64 x2)).set (i * 6 + 3) (.int .i64 x3)).set (i * 6 + 4) (.int .i64 x4)).set (i * 6 + 5) (.int .i64 x5) = flatE (l.set i (x0, x1, x2, x3, x4, x5)) := by
 induction l with
 | nil => intro i h; simp at h
 | cons p l ih =>
  intro i h
  cases i with
  | zero => simp [flatE_cons]
  | succ i =>
   have := ih i (by simpa using h)
   rw [flatE_cons, List.set_cons_succ, flatE_cons, show (i + 1) * 6 + 5 = (i * 6 + 5) + 1 + 1 + 1 + 1 + 1 + 1 by omega, show (i + 1) * 6 + 4 = (i * 6 + 4) + 1 + 1 + 1 + 1 + 1 + 1 by omega, show (i + 1) * 6 + 3 = (i * 6 + 3) + 1 + 1 + 1 + 1 + 1 + 1 by omega, show (i + 1) * 6 + 2 = (i * 6 + 2) + 1 + 1 + 1 + 1 + 1 + 1 by omega, show (i + 1) * 6 + 1 = (i * 6 + 1) + 1 + 1 + 1 + 1 + 1 + 1 by omega, show (i + 1) * 6 = (i * 6) + 1 + 1 + 1 + 1 + 1 + 1 by omega]
   simp only [List.set_cons_succ]
   rw [this]
theorem Row.ents {w : World} {v : Value} {l : EL} (h : Row w v l.length (flatE l)) :
  ∃ (a : Option Addr) (b off cap : Nat), v = .slice a l.length cap ∧ l.length ≤ cap ∧ cap ≤ maxLen ∧ (0 < l.length → a = some ⟨b, off, none⟩) ∧
   (∀ i, i < l.length → w.cell? ⟨b, off + i * 6, none⟩ = some (.int .i64 (eT l i))) ∧ (∀ i, i < l.length → w.cell? ⟨b, off + i * 6 + 1, none⟩ = some (.int .i64 (eC l i))) ∧ (∀ i, i < l.length → w.cell? ⟨b, off + i * 6 + 2, none⟩ = some (.int .i64 (eS l i))) ∧ (∀ i, i < l.length → w.cell? ⟨b, off + i * 6 + 3, none⟩ = some (.int .i64 (eO l i))) ∧ (∀ i, i < l.length → w.cell? ⟨b, off + i * 6 + 4, none⟩ = some (.int .i64 (eK l i))) ∧ (∀ i, i < l.length → w.cell? ⟨b, off + i * 6 + 5, none⟩ = some (.int .i64 (eV l i))) := by
 obtain ⟨a, b, off, cap, h1, h2, h3, h4, h5, _⟩ := h
 exact ⟨a, b, off, cap, h1, h2, h3, h4, fun i hi => h5 _ _ (flatE_at l i hi).1, fun i hi => h5 _ _ (flatE_at l i hi).2.1, fun i hi => h5 _ _ (flatE_at l i hi).2.2.1, fun i hi => h5 _ _ (flatE_at l i hi).2.2.2.1, fun i hi => h5 _ _ (flatE_at l i hi).2.2.2.2.1, fun i hi => h5 _ _ (flatE_at l i hi).2.2.2.2.2⟩

abbrev enV (x0 x1 x2 x3 x4 x5 : Int) : Value := .agg #[.int .i64 x0, .int .i64 x1, .int .i64 x2, .int .i64 x3, .int .i64 x4, .int .i64 x5]
def eqEnB (p q : En) : Bool := decide (p = q)
theorem ne_of_eqEnB {l1 l2 : EL} {k : Nat} (h : eqEnB (eT l1 k, eC l1 k, eS l1 k, eO l1 k, eK l1 k, eV l1 k) (eT l2 k, eC l2 k, eS l2 k, eO l2 k, eK l2 k, eV l2 k) = false) : l1 ≠ l2 := by
 intro e; subst e; simp [eqEnB] at h

theorem eqCmd_any (c s o k v c2 s2 o2 k2 v2 : Int) (w : World) :
  Calls Try.prog 36 #[.agg #[.int .i64 c, .int .i64 s, .int .i64 o, .int .i64 k, .int .i64 v], .agg #[.int .i64 c2, .int .i64 s2, .int .i64 o2, .int .i64 k2, .int .i64 v2]] w fun r w' => r = .returned (.bool (decide ((c, s, o, k, v) = (c2, s2, o2, k2, v2)))) ∧ Below w.heap.size w w' := by
 have B2 : Hid (Below w.heap.size w ((w.alloc (.cells #[.int .i64 c, .int .i64 s, .int .i64 o, .int .i64 k, .int .i64 v] 75)).alloc (.cells #[.int .i64 c2, .int .i64 s2, .int .i64 o2, .int .i64 k2, .int .i64 v2] 75))) := Below.and (bel_nw _ _) (bel_nw _ _)
 by_cases hc : c = c2
 ·by_cases hs : s = s2
  ·subst hc hs
   go_enter Try.func36, Try.ntmps36
   go_wp2_with fail
   generalize (w.alloc (.cells #[.int .i64 c, .int .i64 s, .int .i64 o, .int .i64 k, .int .i64 v] 75)).alloc (.cells #[.int .i64 c, .int .i64 s, .int .i64 o2, .int .i64 k2, .int .i64 v2] 75) = W at *
   refine (eqMsg_any _ _ _ _ _ _ _).mono ?_
   rintro e w1 ⟨rfl, b1⟩
   have B3 : Hid (Below w.heap.size w w1) := Below.and B2.out b1
   clear b1
   have E : Hid (decide ((c, s, o, k, v) = (c, s, o2, k2, v2)) = eqMsgB o k v o2 k2 v2) := by show _ = _; simp [eqMsgB]
   generalize hq : eqMsgB o k v o2 k2 v2 = q
   cases q
   ·have HQ : Hid _ := hq
    clear hq
    go_wp2
    go_ret
    exact ⟨ret_bool (E.out.trans HQ.out).symm, B3.out⟩
   ·have HQ : Hid _ := hq
    clear hq
    go_wp2
    go_ret
    exact ⟨ret_bool (E.out.trans HQ.out).symm, B3.out⟩
  ·have hs' : (s != s2) = true := by simpa using hs
   have E : Hid (decide ((c, s, o, k, v) = (c2, s2, o2, k2, v2)) = false) := by show _ = _; simp [hs]
   rw [E.out]
   subst hc
   go_enter Try.func36, Try.ntmps36
   go_wp2_with fail
   go_ret
   exact ⟨rfl, B2.out⟩
 ·have hc' : (c != c2) = true := by simpa using hc
  have E : Hid (decide ((c, s, o, k, v) = (c2, s2, o2, k2, v2)) = false) := by show _ = _; simp [hc]
  rw [E.out]
  go_enter Try.func36, Try.ntmps36
  go_wp2_with fail
  go_ret
  exact ⟨rfl, B2.out⟩

theorem eqEntry_any (t c s o k v t2 c2 s2 o2 k2 v2 : Int) (w : World) :
  Calls Try.prog 69 #[enV t c s o k v, enV t2 c2 s2 o2 k2 v2] w fun r w' => r = .returned (.bool (eqEnB (t, c, s, o, k, v) (t2, c2, s2, o2, k2, v2))) ∧ Below w.heap.size w w' := by
 have B2 : Hid (Below w.heap.size w ((w.alloc (.cells #[.int .i64 t, .int .i64 c, .int .i64 s, .int .i64 o, .int .i64 k, .int .i64 v] 101)).alloc (.cells #[.int .i64 t2, .int .i64 c2, .int .i64 s2, .int .i64 o2, .int .i64 k2, .int .i64 v2] 101))) := Below.and (bel_nw _ _) (bel_nw _ _)
 by_cases hc : t = t2
 ·subst hc
  go_enter Try.func69, Try.ntmps69
  go_wp2_with fail
  generalize (w.alloc (.cells #[.int .i64 t, .int .i64 c, .int .i64 s, .int .i64 o, .int .i64 k, .int .i64 v] 101)).alloc (.cells #[.int .i64 t, .int .i64 c2, .int .i64 s2, .int .i64 o2, .int .i64 k2, .int .i64 v2] 101) = W at *
  refine (eqCmd_any _ _ _ _ _ _ _ _ _ _ _).mono ?_
  rintro e w1 ⟨rfl, b1⟩
  have B3 : Hid (Below w.heap.size w w1) := Below.and B2.out b1
  clear b1
  have E : Hid (eqEnB (t, c, s, o, k, v) (t, c2, s2, o2, k2, v2) = decide ((c, s, o, k, v) = (c2, s2, o2, k2, v2))) := by show _ = _; simp [eqEnB]
  generalize hq : decide ((c, s, o, k, v) = (c2, s2, o2, k2, v2)) = q
  cases q
  ·have HQ : Hid (decide ((c, s, o, k, v) = (c2, s2, o2, k2, v2)) = false) := hq
   clear hq
   go_wp2
   go_ret
   exact ⟨ret_bool (E.out.trans HQ.out).symm, B3.out⟩
  ·have HQ : Hid (decide ((c, s, o, k, v) = (c2, s2, o2, k2, v2)) = true) := hq
   clear hq
   go_wp2
   go_ret
   exact ⟨ret_bool (E.out.trans HQ.out).symm, B3.out⟩
 ·have hc' : (t != t2) = true := by simpa using hc
  have E : Hid (eqEnB (t, c, s, o, k, v) (t2, c2, s2, o2, k2, v2) = false) := by show _ = _; simp [eqEnB, hc]
  rw [E.out]
  go_enter Try.func69, Try.ntmps69
  go_wp2_with fail
  go_ret
  exact ⟨rfl, B2.out⟩

theorem eqEntryS_any (v1 v2 : Value) (l1 l2 : EL) (w : World) (h1 : Row w v1 l1.length (flatE l1)) (h2 : Row w v2 l2.length (flatE l2)) :
  Calls Try.prog 61 #[v1, v2] w fun e w' => e = .returned (.bool (decide (l1 = l2))) ∧ Below w.heap.size w w' := by
 obtain ⟨a, b, off, cap, rfl, hcap, hmax, ha, h10, h11, h12, h13, h14, h15⟩ := h1.ents
 obtain ⟨a2, b2, off2, cap2, rfl, hcap2, hmax2, ha2, g10, g11, g12, g13, g14, g15⟩ := h2.ents
 unfold maxLen at hmax hmax2
 by_cases hl : l1.length = l2.length
 ·have hne : ((l1.length : Int) != (l2.length : Int)) = false := by rw [bne_eq_false_iff_eq]; omega
  have HL : Hid (l1.length = l2.length) := hl
  have hl2 : l1.length ≤ l2.length := by omega
  clear hl
  go_enter Try.func61, Try.ntmps61
  go_wp2
  go_loopw [5] (fun i wr => ∃ k : Nat, k ≤ l1.length ∧ i = .int .i64 k ∧ (∀ i, i < k → eT l1 i = eT l2 i ∧ eC l1 i = eC l2 i ∧ eS l1 i = eS l2 i ∧ eO l1 i = eO l2 i ∧ eK l1 i = eK l2 i ∧ eV l1 i = eV l2 i) ∧ Below w.heap.size w wr)
   (fun i _ => l1.length - (intOf i).toNat)
  case atStart => exact ⟨0, Nat.zero_le _, rfl, fun i hi => absurd hi (Nat.not_lt_zero _), Below.refl _ _⟩
  case round =>
   obtain ⟨k, hkl, rfl, hall, hb⟩ := hrel
   have ALL : Hid (∀ i, i < k → eT l1 i = eT l2 i ∧ eC l1 i = eC l2 i ∧ eS l1 i = eS l2 i ∧ eO l1 i = eO l2 i ∧ eK l1 i = eK l2 i ∧ eV l1 i = eV l2 i) := hall
   clear hall
   by_cases hlt : k < l1.length
   ·have hal := ha (by omega)
    subst hal
    have hal2 := ha2 (by omega)
    subst hal2
    have hlt2 : k < l2.length := by omega
    have d0 := (hb.cell (by exact cell_lt (h10 k hlt))).trans (h10 k hlt)
    have f0 := (hb.cell (by exact cell_lt (g10 k hlt2))).trans (g10 k hlt2)
    have d1 := (hb.cell (by exact cell_lt (h11 k hlt))).trans (h11 k hlt)
    have f1 := (hb.cell (by exact cell_lt (g11 k hlt2))).trans (g11 k hlt2)
    have d2 := (hb.cell (by exact cell_lt (h12 k hlt))).trans (h12 k hlt)
    have f2 := (hb.cell (by exact cell_lt (g12 k hlt2))).trans (g12 k hlt2)
    have d3 := (hb.cell (by exact cell_lt (h13 k hlt))).trans (h13 k hlt)
    have f3 := (hb.cell (by exact cell_lt (g13 k hlt2))).trans (g13 k hlt2)
    have d4 := (hb.cell (by exact cell_lt (h14 k hlt))).trans (h14 k hlt)
    have f4 := (hb.cell (by exact cell_lt (g14 k hlt2))).trans (g14 k hlt2)
    have d5 := (hb.cell (by exact cell_lt (h15 k hlt))).trans (h15 k hlt)
    have f5 := (hb.cell (by exact cell_lt (g15 k hlt2))).trans (g15 k hlt2)
    clear h10 h11 h12 h13 h14 h15 g10 g11 g12 g13 g14 g15 ha ha2
    go_wp2_with fail
    cases hq : eqEnB (eT l1 k, eC l1 k, eS l1 k, eO l1 k, eK l1 k, eV l1 k) (eT l2 k, eC l2 k, eS l2 k, eO l2 k, eK l2 k, eV l2 k)
    ·have NE : Hid (decide (l1 = l2) = false) := decide_eq_false (ne_of_eqEnB hq)
     go_region_with (go_at_call 69; refine (eqEntry_any _ _ _ _ _ _ _ _ _ _ _ _ _).mono ?_; rintro e w1 ⟨rfl, hb1⟩)
     all_goals
      go_wp2
      go_ret
      exact ⟨ret_bool NE.out.symm, hb.drew.trans (hb1.mono hb.size)⟩
    ·have EQ : Hid (eT l1 k = eT l2 k ∧ eC l1 k = eC l2 k ∧ eS l1 k = eS l2 k ∧ eO l1 k = eO l2 k ∧ eK l1 k = eK l2 k ∧ eV l1 k = eV l2 k) := by show _ ∧ _; simpa [eqEnB] using hq
     go_region_with (go_at_call 69; refine (eqEntry_any _ _ _ _ _ _ _ _ _ _ _ _ _).mono ?_; rintro e w1 ⟨rfl, hb1⟩)
     all_goals
      go_wp2
      go_roundw
      case rel => exact ⟨k + 1, by omega, by go_num, fun i hi => if h : i < k then ALL.out i h else by rw [show i = k by omega]; exact EQ.out, hb.drew.trans (hb1.mono hb.size)⟩
      case measure => simp [intOf]; omega
   ·go_wp2
    go_ret
    refine ⟨ret_bool ?_, hb⟩
    symm
    rw [decide_eq_true_iff]
    exact el_ext HL.out (fun i hi => ALL.out i (by omega))
 ·have hne : ((l1.length : Int) != (l2.length : Int)) = true := by rw [bne_iff_ne]; omega
  go_enter Try.func61, Try.ntmps61
  go_wp2
  go_ret
  refine ⟨ret_bool ?_, Below.refl _ _⟩
  symm
  rw [decide_eq_false_iff_not]
  intro h; exact hl (by rw [h])

def filledE (l : EL) (k : Nat) : EL := l.take k ++ List.replicate (l.length - k) en0
end
end Go.Proofs.Ytdcladffnjikkaa

namespace Go.Proofs.Ytdcladffnjikkaa
section
open Go.RowKit

def cmdOkB (c s o k v : Int) : Bool := (c == 0 && s == 0 && o == 0 && k == 0 && v == 0) || (inB c 1 9 && inB s 1 100000 && msgOkB o k v)

abbrev cmdV (c s o k v : Int) : Value := .agg #[.int .i64 c, .int .i64 s, .int .i64 o, .int .i64 k, .int .i64 v]

theorem specCmdOk_any (c s o k v : Int) (w : World) :
  Calls Try.prog 63 #[cmdV c s o k v] w fun e w' => e = .returned (.bool (cmdOkB c s o k v)) ∧ Below w.heap.size w w' := by
 by_cases h0 : c = 0
 ·subst h0
  go_enter Try.func63, Try.ntmps63
  go_wp2_with fail
  all_goals (go_ret; refine ⟨ret_bool ?_, (Below.refl _ _).alloc (Nat.le_refl _) _⟩; simp_all [cmdOkB, inB])
 ·have h0' : (c == 0) = false := by simpa using h0
  go_enter Try.func63, Try.ntmps63
  go_wp2_with (first | (go_at_call 9; refine (l1In_any _ _ _ _).mono ?_; rintro e w' ⟨rfl, rfl⟩) | (go_at_call 70; refine (specMsgOk_any _ _ _ _).mono ?_; rintro e w' ⟨rfl, hb⟩))
  all_goals (go_ret; refine ⟨ret_bool ?_, ?_⟩)
  all_goals first | exact (Below.refl _ _).alloc (Nat.le_refl _) _ | exact Below.and ((Below.refl _ _).alloc (Nat.le_refl _) _) hb | (simp_all [cmdOkB, inB]; done) | (simp_all [cmdOkB, inB]; intros; omega)
end
section
open Go.RowKit
end
section
open Go.RowKit

abbrev lgV (b t : Int) (v : Value) : Value := .agg #[.int .i64 b, .int .i64 t, v]

theorem eqLog_any (b t b2 t2 : Int) (v v2 : Value) (l l2 : EL) (w : World) (h : Row w v l.length (flatE l)) (h2 : Row w v2 l2.length (flatE l2)) :
  Calls Try.prog 57 #[lgV b t v, lgV b2 t2 v2] w fun e w' => e = .returned (.bool (decide (b = b2 ∧ t = t2 ∧ l = l2))) ∧ Below w.heap.size w w' := by
 have H : Hid _ := And.intro h h2
 have N1 : Hid (MBox 37 ((w.alloc (.cells #[.int .i64 b, .int .i64 t, v] 37)).alloc (.cells #[.int .i64 b2, .int .i64 t2, v2] 37)) w.heap.size #[.int .i64 b, .int .i64 t, v]) := (MBox.start _ _ _).step (bel_nw _ _)
 have N2 : Hid (MBox 37 ((w.alloc (.cells #[.int .i64 b, .int .i64 t, v] 37)).alloc (.cells #[.int .i64 b2, .int .i64 t2, v2] 37)) (w.alloc (.cells #[.int .i64 b, .int .i64 t, v] 37)).heap.size #[.int .i64 b2, .int .i64 t2, v2]) := MBox.start _ _ _
 have B2 : Hid (Below w.heap.size w ((w.alloc (.cells #[.int .i64 b, .int .i64 t, v] 37)).alloc (.cells #[.int .i64 b2, .int .i64 t2, v2] 37))) := Below.and (bel_nw _ _) (bel_nw _ _)
 have e1 : (w.alloc (.cells #[.int .i64 b, .int .i64 t, v] 37)).heap.size = w.heap.size + 1 := by simp
 rw [e1] at N2
 have c1 := N1.out.cells
 have d1 := N2.out.cells
 clear h h2 e1
 by_cases hb : b = b2
 ·by_cases ht : t = t2
  ·subst hb ht
   have E : Hid (decide (b = b ∧ t = t ∧ l = l2) = decide (l = l2)) := by show _ = _; simp
   go_enter Try.func57, Try.ntmps57
   go_wp2_with fail
   generalize (w.alloc (.cells #[.int .i64 b, .int .i64 t, v] 37)).alloc (.cells #[.int .i64 b, .int .i64 t, v2] 37) = W at *
   refine Calls.mono (eqEntryS_any v v2 l l2 W (H.out.1.below B2.out) (H.out.2.below B2.out)) ?_
   rintro e w2 ⟨rfl, b2⟩
   have B3 : Hid (Below w.heap.size w w2) := Below.and B2.out b2
   clear b2
   generalize hq : decide (l = l2) = q
   cases q
   ·have HQ : Hid (decide (l = l2) = false) := hq
    clear hq
    go_wp2
    go_ret
    exact ⟨ret_bool (E.out.trans HQ.out).symm, B3.out⟩
   ·have HQ : Hid (decide (l = l2) = true) := hq
    clear hq
    go_wp2
    go_ret
    exact ⟨ret_bool (E.out.trans HQ.out).symm, B3.out⟩
  ·have hs' : (t != t2) = true := by simpa using ht
   have E : Hid (decide (b = b2 ∧ t = t2 ∧ l = l2) = false) := by show _ = _; simp [ht]
   subst hb
   go_enter Try.func57, Try.ntmps57
   go_wp2_with fail
   go_ret
   exact ⟨ret_bool (by first | exact E.out.symm | rfl), B2.out⟩
 ·have hs' : (b != b2) = true := by simpa using hb
  have E : Hid (decide (b = b2 ∧ t = t2 ∧ l = l2) = false) := by show _ = _; simp [hb]
  go_enter Try.func57, Try.ntmps57
  go_wp2_with fail
  go_ret
  exact ⟨ret_bool (by first | exact E.out.symm | rfl), B2.out⟩
end
section
open Go.RowKit

def flatL (l : List Bool) : List Value := l.map Value.bool
def bOf (l : List Bool) (i : Nat) : Bool := l.getD i false
theorem flatL_at (l : List Bool) (i : Nat) (h : i < l.length) : (flatL l)[i]? = some (.bool (bOf l i)) := by simp [flatL, bOf, List.getD, h]
theorem flatL_set (l : List Bool) (s : Bool) (i : Nat) : (flatL l).set i (.bool s) = flatL (l.set i s) := by simp [flatL, List.map_set]
theorem Row.bools {w : World} {v : Value} {l : List Bool} (h : Row w v l.length (flatL l)) :
  ∃ (a : Option Addr) (b off cap : Nat), v = .slice a l.length cap ∧ l.length ≤ cap ∧ cap ≤ maxLen ∧ (0 < l.length → a = some ⟨b, off, none⟩) ∧
   (∀ i, i < l.length → w.cell? ⟨b, off + i, none⟩ = some (.bool (bOf l i))) := by
 obtain ⟨a, b, off, cap, h1, h2, h3, h4, h5, _⟩ := h
 exact ⟨a, b, off, cap, h1, h2, h3, h4, fun i hi => h5 _ _ (flatL_at l i hi)⟩
theorem extL {l1 l2 : List Bool} (hl : l1.length = l2.length) (h : ∀ i, i < l1.length → bOf l1 i = bOf l2 i) : l1 = l2 := by
 apply List.ext_getElem hl
 intro i h1 h2
 have := h i h1
 simpa [bOf, List.getD, h1, h2] using this

theorem Try.info4 : (Try.prog.info? 4).map (fun i => (i.zero, i.size, i.bytes)) = some (some (.bool false), 1, 1) := by kernel_rfl

def filledL (l : List Bool) (k : Nat) : List Value := flatL (l.take k) ++ List.replicate (l.length - k) (.bool false)
theorem eqBoolS_any (v1 v2 : Value) (l1 l2 : List Bool) (w : World) (h1 : Row w v1 l1.length (flatL l1)) (h2 : Row w v2 l2.length (flatL l2)) :
  Calls Try.prog 59 #[v1, v2] w fun e w' => e = .returned (.bool (decide (l1 = l2))) ∧ Below w.heap.size w w' := by
 obtain ⟨a, b, off, cap, rfl, hcap, hmax, ha, hk⟩ := h1.bools
 obtain ⟨a2, b2, off2, cap2, rfl, hcap2, hmax2, ha2, hk2⟩ := h2.bools
 unfold maxLen at hmax hmax2
 by_cases hl : l1.length = l2.length
 ·have hne : ((l1.length : Int) != (l2.length : Int)) = false := by rw [bne_eq_false_iff_eq]; omega
  have HL : Hid (l1.length = l2.length) := hl
  have hl2 : l1.length ≤ l2.length := by omega
  clear hl
  go_enter Try.func59, Try.ntmps59
  go_wp2
  go_loopw [5] (fun i wr => ∃ k : Nat, k ≤ l1.length ∧ i = .int .i64 k ∧ Hid (∀ i, i < k → bOf l1 i = bOf l2 i) ∧ Below w.heap.size w wr)
   (fun i _ => l1.length - (intOf i).toNat)
  case atStart => exact ⟨0, Nat.zero_le _, rfl, fun i hi => absurd hi (Nat.not_lt_zero _), Below.refl _ _⟩
  case round =>
   obtain ⟨k, hkl, rfl, ALL, hb⟩ := hrel
   by_cases hlt : k < l1.length
   ·have hal := ha (by omega)
    subst hal
    have hal2 := ha2 (by omega)
    subst hal2
    have hlt2 : k < l2.length := by omega
    have d0 := (hb.cell (by exact cell_lt (hk k hlt))).trans (hk k hlt)
    have d1 := (hb.cell (by exact cell_lt (hk2 k hlt2))).trans (hk2 k hlt2)
    clear hk ha hk2 ha2
    by_cases hq : bOf l1 k = bOf l2 k
    ·have hq' : (bOf l1 k == bOf l2 k) = true := by rw [beq_iff_eq]; exact hq
     have EQ : Hid (bOf l1 k = bOf l2 k) := hq
     clear hq
     go_wp2_with fail
     go_quiet (fail)
     go_wp2
     go_roundw
     case rel => exact ⟨k + 1, by omega, by go_num, fun i hi => if h : i < k then ALL.out i h else by rw [show i = k by omega]; exact EQ.out, below_drewN hb _⟩
     case measure => simp [intOf]; omega
    ·have hq' : (bOf l1 k == bOf l2 k) = false := by rw [beq_eq_false_iff_ne]; exact hq
     have NE : Hid (decide (l1 = l2) = false) := decide_eq_false (fun e => hq (by rw [e]))
     clear hq
     go_wp2_with fail
     go_quiet (fail)
     go_wp2
     go_ret
     exact ⟨ret_bool NE.out.symm, below_drewN hb _⟩
   ·go_wp2
    go_ret
    refine ⟨ret_bool ?_, hb⟩
    symm
    rw [decide_eq_true_iff]
    exact extL HL.out (fun i hi => ALL.out i (by omega))
 ·have hne : ((l1.length : Int) != (l2.length : Int)) = true := by rw [bne_iff_ne]; omega
  go_enter Try.func59, Try.ntmps59
  go_wp2
  go_ret
  refine ⟨ret_bool ?_, Below.refl _ _⟩
  symm
  rw [decide_eq_false_iff_not]
  intro h; exact hl (by rw [h])
end
end Go.Proofs.Ytdcladffnjikkaa
