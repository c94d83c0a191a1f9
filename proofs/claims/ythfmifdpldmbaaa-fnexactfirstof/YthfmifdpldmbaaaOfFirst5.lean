/-
  Entries of a log as rows of cells; the laws' own functions on them.
  The program's MsgOk: with this folder's texts it stands in Msg.
  Commands: toCmd, CmdOk of both sides, the walk of the law FnExactCmdOk.
  toEntry, toEntryS: entries copied out of the law's own kind.
-/
import Derived.Test.YthfmifdpldmbaaaOfFirst2
import Derived.Deep.RegionHeld3
import Derived.Test.YthfmifdpldmbaaaOfFirst1
namespace Go.Proofs.Ythfmifdpldmbaaa
set_option maxRecDepth 100000
set_option maxHeartbeats 8000000
section
open Go.RowKit

abbrev En := Int × Int × Int × Int × Int × Int
abbrev EL := List En
abbrev en0 : En := (0, 0, 0, 0, 0, 0)
def eT (l : EL) (i : Nat) : Int := (l.getD i en0).1
def eC (l : EL) (i : Nat) : Int := (l.getD i en0).2.1
def eS (l : EL) (i : Nat) : Int := (l.getD i en0).2.2.1
def eO (l : EL) (i : Nat) : Int := (l.getD i en0).2.2.2.1
def eK (l : EL) (i : Nat) : Int := (l.getD i en0).2.2.2.2.1
def eV (l : EL) (i : Nat) : Int := (l.getD i en0).2.2.2.2.2
theorem el_at (l : EL) (i : Nat) (h : i < l.length) : l[i] = (eT l i, eC l i, eS l i, eO l i, eK l i, eV l i) := by simp [eT, eC, eS, eO, eK, eV, List.getD, h]
theorem el_ext {l1 l2 : EL} (hl : l1.length = l2.length) (h : ∀ i, i < l1.length → eT l1 i = eT l2 i ∧ eC l1 i = eC l2 i ∧ eS l1 i = eS l2 i ∧ eO l1 i = eO l2 i ∧ eK l1 i = eK l2 i ∧ eV l1 i = eV l2 i) : l1 = l2 := by
 apply List.ext_getElem hl
 intro i h1 h2
 rw [el_at l1 i h1, el_at l2 i h2, (h i h1).1, (h i h1).2.1, (h i h1).2.2.1, (h i h1).2.2.2.1, (h i h1).2.2.2.2.1, (h i h1).2.2.2.2.2]
theorem take_succE (l : EL) (k : Nat) (hk : k < l.length) : l.take (k + 1) = l.take k ++ [(eT l k, eC l k, eS l k, eO l k, eK l k, eV l k)] := by
 rw [List.take_succ_eq_append_getElem hk, el_at l k hk]
def flatE (l : EL) : List Value := l.flatMap fun m => [.int .i64 m.1, .int .i64 m.2.1, .int .i64 m.2.2.1, .int .i64 m.2.2.2.1, .int .i64 m.2.2.2.2.1, .int .i64 m.2.2.2.2.2]
theorem flatE_cons (m : En) (l : EL) : flatE (m :: l) = .int .i64 m.1 :: .int .i64 m.2.1 :: .int .i64 m.2.2.1 :: .int .i64 m.2.2.2.1 :: .int .i64 m.2.2.2.2.1 :: .int .i64 m.2.2.2.2.2 :: flatE l := rfl
theorem flatE_length (l : EL) : (flatE l).length = l.length * 6 := by
 induction l with
 | nil => rfl
 | cons a l ih => rw [flatE_cons]; simp only [List.length_cons]; omega
theorem flatE_at (l : EL) : ∀ i, i < l.length → (flatE l)[i * 6]? = some (.int .i64 (eT l i)) ∧ (flatE l)[i * 6 + 1]? = some (.int .i64 (eC l i)) ∧ (flatE l)[i * 6 + 2]? = some (.int .i64 (eS l i)) ∧ (flatE l)[i * 6 + 3]? = some (.int .i64 (eO l i)) ∧ (flatE l)[i * 6 + 4]? = some (.int .i64 (eK l i)) ∧ (flatE l)[i * 6 + 5]? = some (.int .i64 (eV l i)) := by
 induction l with
 | nil => intro i h; simp at h
 | cons a l ih =>
  intro i h
  cases i with
  | zero => simp [flatE_cons, eT, eC, eS, eO, eK, eV]
  | succ i =>
   have := ih i (by simpa using h)
   have e0 : (i + 1) * 6 = (i * 6) + 1 + 1 + 1 + 1 + 1 + 1 := by omega
   have e1 : (i + 1) * 6 + 1 = (i * 6 + 1) + 1 + 1 + 1 + 1 + 1 + 1 := by omega
   have e2 : (i + 1) * 6 + 2 = (i * 6 + 2) + 1 + 1 + 1 + 1 + 1 + 1 := by omega
   have e3 : (i + 1) * 6 + 3 = (i * 6 + 3) + 1 + 1 + 1 + 1 + 1 + 1 := by omega
   have e4 : (i + 1) * 6 + 4 = (i * 6 + 4) + 1 + 1 + 1 + 1 + 1 + 1 := by omega
   have e5 : (i + 1) * 6 + 5 = (i * 6 + 5) + 1 + 1 + 1 + 1 + 1 + 1 := by omega
   rw [e5, e4, e3, e2, e1, e0, flatE_cons]
   simpa [eT, eC, eS, eO, eK, eV] using this
theorem flatE_set (l : EL) (x0 x1 x2 x3 x4 x5 : Int) : ∀ i, i < l.length → ((((((flatE l).set (i * 6) (.int .i64 x0)).set (i * 6 + 1) (.int .i64 x1)).set (i * 6 + 2) (.int .i64 x2)).set (i * 6 + 3) (.int .i64 x3)).set (i * 6 + 4) (.int .i64 x4)).set (i * 6 + 5) (.int .i64 x5) = flatE (l.set i (x0, x1, x2, x3, x4, x5)) := by
 induction l with
 | nil => intro i h; simp at h
 | cons p l ih =>
  intro i h
  cases i with
  | zero => simp [flatE_cons]
  | succ i =>
   have := ih i (by simpa using h)
   rw [flatE_cons, List.set_cons_succ, flatE_cons, show (i + 1) * 6 + 5 = (i * 6 + 5) + 1 + 1 + 1 + 1 + 1 + 1 by omega, show (i + 1) * 6 + 4 = (i * 6 + 4) + 1 + 1 + 1 + 1 + 1 + 1 by omega, show (i + 1) * 6 + 3 = (i * 6 + 3) + 1 + 1 + 1 + 1 + 1 + 1 by omega, show (i + 1) * 6 + 2 = (i * 6 + 2) + 1 + 1 + 1 + 1 + 1 + 1 by omega, show (i + 1) * 6 + 1 = (i * 6 + 1) + 1 + 1 + 1 + 1 + 1 + 1 by omega, show (i + 1) * 6 = (i * 6) + 1 + 1 + 1 + 1 + 1 + 1 by omega]
   simp only [List.set_cons_succ]
   rw [this]
theorem Row.ents {w : World} {v : Value} {l : EL} (h : Row w v l.length (flatE l)) :
  ∃ (a : Option Addr) (b off cap : Nat), v = .slice a l.length cap ∧ l.length ≤ cap ∧ cap ≤ maxLen ∧ (0 < l.length → a = some ⟨b, off, none⟩) ∧
   (∀ i, i < l.length → w.cell? ⟨b, off + i * 6, none⟩ = some (.int .i64 (eT l i))) ∧ (∀ i, i < l.length → w.cell? ⟨b, off + i * 6 + 1, none⟩ = some (.int .i64 (eC l i))) ∧ (∀ i, i < l.length → w.cell? ⟨b, off + i * 6 + 2, none⟩ = some (.int .i64 (eS l i))) ∧ (∀ i, i < l.length → w.cell? ⟨b, off + i * 6 + 3, none⟩ = some (.int .i64 (eO l i))) ∧ (∀ i, i < l.length → w.cell? ⟨b, off + i * 6 + 4, none⟩ = some (.int .i64 (eK l i))) ∧ (∀ i, i < l.length → w.cell? ⟨b, off + i * 6 + 5, none⟩ = some (.int .i64 (eV l i))) := by
 obtain ⟨a, b, off, cap, h1, h2, h3, h4, h5, _⟩ := h
 exact ⟨a, b, off, cap, h1, h2, h3, h4, fun i hi => h5 _ _ (flatE_at l i hi).1, fun i hi => h5 _ _ (flatE_at l i hi).2.1, fun i hi => h5 _ _ (flatE_at l i hi).2.2.1, fun i hi => h5 _ _ (flatE_at l i hi).2.2.2.1, fun i hi => h5 _ _ (flatE_at l i hi).2.2.2.2.1, fun i hi => h5 _ _ (flatE_at l i hi).2.2.2.2.2⟩

theorem szEntryS_any (a : Option Addr) (n cap : Nat) (left : Int) (hn : n ≤ maxLen) (hl : 0 ≤ left) (hl2 : left ≤ 1048576) (w : World) :
  Calls Try.prog 43 #[.slice a n cap, .int .i64 left] w fun e w' => e = .returned (.int .i64 (if (n : Int) ≤ left then left - n else -1)) ∧ w' = w := by
 unfold maxLen at hn
 by_cases h : (n : Int) ≤ left
 ·go_enter Try.func43, Try.ntmps43
  go_wp2
  go_ret
  exact ⟨rfl, rfl⟩
 ·go_enter Try.func43, Try.ntmps43
  go_wp2
  go_ret
  exact ⟨rfl, rfl⟩

abbrev enV (x0 x1 x2 x3 x4 x5 : Int) : Value := .agg #[.int .i64 x0, .int .i64 x1, .int .i64 x2, .int .i64 x3, .int .i64 x4, .int .i64 x5]
def eqEnB (p q : En) : Bool := decide (p = q)
theorem ne_of_eqEnB {l1 l2 : EL} {k : Nat} (h : eqEnB (eT l1 k, eC l1 k, eS l1 k, eO l1 k, eK l1 k, eV l1 k) (eT l2 k, eC l2 k, eS l2 k, eO l2 k, eK l2 k, eV l2 k) = false) : l1 ≠ l2 := by
 intro e; subst e; simp [eqEnB] at h

theorem eqCmd_any (c s o k v c2 s2 o2 k2 v2 : Int) (w : World) :
  Calls Try.prog 36 #[.agg #[.int .i64 c, .int .i64 s, .int .i64 o, .int .i64 k, .int .i64 v], .agg #[.int .i64 c2, .int .i64 s2, .int .i64 o2, .int .i64 k2, .int .i64 v2]] w fun r w' => r = .returned (.bool (decide ((c, s, o, k, v) = (c2, s2, o2, k2, v2)))) ∧ Below w.heap.size w w' := by
 have B2 : Hid (Below w.heap.size w ((w.alloc (.cells #[.int .i64 c, .int .i64 s, .int .i64 o, .int .i64 k, .int .i64 v] 49)).alloc (.cells #[.int .i64 c2, .int .i64 s2, .int .i64 o2, .int .i64 k2, .int .i64 v2] 49))) := Below.and (bel_nw _ _) (bel_nw _ _)
 by_cases hc : c = c2
 ·by_cases hs : s = s2
  ·subst hc hs
   go_enter Try.func36, Try.ntmps36
   go_wp2_with fail
   generalize (w.alloc (.cells #[.int .i64 c, .int .i64 s, .int .i64 o, .int .i64 k, .int .i64 v] 49)).alloc (.cells #[.int .i64 c, .int .i64 s, .int .i64 o2, .int .i64 k2, .int .i64 v2] 49) = W at *
   refine (eqMsg_any _ _ _ _ _ _ _).mono ?_
   rintro e w1 ⟨rfl, b1⟩
   have B3 : Hid (Below w.heap.size w w1) := Below.and B2.out b1
   clear b1
   have E : Hid (decide ((c, s, o, k, v) = (c, s, o2, k2, v2)) = eqMsgB o k v o2 k2 v2) := by show _ = _; simp [eqMsgB]
   generalize hq : eqMsgB o k v o2 k2 v2 = q
   cases q
   ·have HQ : Hid _ := hq
    clear hq
    go_wp2
    go_ret
    exact ⟨ret_bool (E.out.trans HQ.out).symm, B3.out⟩
   ·have HQ : Hid _ := hq
    clear hq
    go_wp2
    go_ret
    exact ⟨ret_bool (E.out.trans HQ.out).symm, B3.out⟩
  ·have hs' : (s != s2) = true := by simpa using hs
   have E : Hid (decide ((c, s, o, k, v) = (c2, s2, o2, k2, v2)) = false) := by show _ = _; simp [hs]
   rw [E.out]
   subst hc
   go_enter Try.func36, Try.ntmps36
   go_wp2_with fail
   go_ret
   exact ⟨rfl, B2.out⟩
 ·have hc' : (c != c2) = true := by simpa using hc
  have E : Hid (decide ((c, s, o, k, v) = (c2, s2, o2, k2, v2)) = false) := by show _ = _; simp [hc]
  rw [E.out]
  go_enter Try.func36, Try.ntmps36
  go_wp2_with fail
  go_ret
  exact ⟨rfl, B2.out⟩

theorem eqEntry_any (t c s o k v t2 c2 s2 o2 k2 v2 : Int) (w : World) :
  Calls Try.prog 60 #[enV t c s o k v, enV t2 c2 s2 o2 k2 v2] w fun r w' => r = .returned (.bool (eqEnB (t, c, s, o, k, v) (t2, c2, s2, o2, k2, v2))) ∧ Below w.heap.size w w' := by
 have B2 : Hid (Below w.heap.size w ((w.alloc (.cells #[.int .i64 t, .int .i64 c, .int .i64 s, .int .i64 o, .int .i64 k, .int .i64 v] 136)).alloc (.cells #[.int .i64 t2, .int .i64 c2, .int .i64 s2, .int .i64 o2, .int .i64 k2, .int .i64 v2] 136))) := Below.and (bel_nw _ _) (bel_nw _ _)
 by_cases hc : t = t2
 ·subst hc
  go_enter Try.func60, Try.ntmps60
  go_wp2_with fail
  generalize (w.alloc (.cells #[.int .i64 t, .int .i64 c, .int .i64 s, .int .i64 o, .int .i64 k, .int .i64 v] 136)).alloc (.cells #[.int .i64 t, .int .i64 c2, .int .i64 s2, .int .i64 o2, .int .i64 k2, .int .i64 v2] 136) = W at *
  refine (eqCmd_any _ _ _ _ _ _ _ _ _ _ _).mono ?_
  rintro e w1 ⟨rfl, b1⟩
  have B3 : Hid (Below w.heap.size w w1) := Below.and B2.out b1
  clear b1
  have E : Hid (eqEnB (t, c, s, o, k, v) (t, c2, s2, o2, k2, v2) = decide ((c, s, o, k, v) = (c2, s2, o2, k2, v2))) := by show _ = _; simp [eqEnB]
  generalize hq : decide ((c, s, o, k, v) = (c2, s2, o2, k2, v2)) = q
  cases q
  ·have HQ : Hid (decide ((c, s, o, k, v) = (c2, s2, o2, k2, v2)) = false) := hq
   clear hq
   go_wp2
   go_ret
   exact ⟨ret_bool (E.out.trans HQ.out).symm, B3.out⟩
  ·have HQ : Hid (decide ((c, s, o, k, v) = (c2, s2, o2, k2, v2)) = true) := hq
   clear hq
   go_wp2
   go_ret
   exact ⟨ret_bool (E.out.trans HQ.out).symm, B3.out⟩
 ·have hc' : (t != t2) = true := by simpa using hc
  have E : Hid (eqEnB (t, c, s, o, k, v) (t2, c2, s2, o2, k2, v2) = false) := by show _ = _; simp [eqEnB, hc]
  rw [E.out]
  go_enter Try.func60, Try.ntmps60
  go_wp2_with fail
  go_ret
  exact ⟨rfl, B2.out⟩

theorem eqEntryS_any (v1 v2 : Value) (l1 l2 : EL) (w : World) (h1 : Row w v1 l1.length (flatE l1)) (h2 : Row w v2 l2.length (flatE l2)) :
  Calls Try.prog 54 #[v1, v2] w fun e w' => e = .returned (.bool (decide (l1 = l2))) ∧ Below w.heap.size w w' := by
 obtain ⟨a, b, off, cap, rfl, hcap, hmax, ha, h10, h11, h12, h13, h14, h15⟩ := h1.ents
 obtain ⟨a2, b2, off2, cap2, rfl, hcap2, hmax2, ha2, g10, g11, g12, g13, g14, g15⟩ := h2.ents
 unfold maxLen at hmax hmax2
 by_cases hl : l1.length = l2.length
 ·have hne : ((l1.length : Int) != (l2.length : Int)) = false := by rw [bne_eq_false_iff_eq]; omega
  have HL : Hid (l1.length = l2.length) := hl
  have hl2 : l1.length ≤ l2.length := by omega
  clear hl
  go_enter Try.func54, Try.ntmps54
  go_wp2
  go_loopw [5] (fun i wr => ∃ k : Nat, k ≤ l1.length ∧ i = .int .i64 k ∧ (∀ i, i < k → eT l1 i = eT l2 i ∧ eC l1 i = eC l2 i ∧ eS l1 i = eS l2 i ∧ eO l1 i = eO l2 i ∧ eK l1 i = eK l2 i ∧ eV l1 i = eV l2 i) ∧ Below w.heap.size w wr)
   (fun i _ => l1.length - (intOf i).toNat)
  case atStart => exact ⟨0, Nat.zero_le _, rfl, fun i hi => absurd hi (Nat.not_lt_zero _), Below.refl _ _⟩
  case round =>
   obtain ⟨k, hkl, rfl, hall, hb⟩ := hrel
   have ALL : Hid (∀ i, i < k → eT l1 i = eT l2 i ∧ eC l1 i = eC l2 i ∧ eS l1 i = eS l2 i ∧ eO l1 i = eO l2 i ∧ eK l1 i = eK l2 i ∧ eV l1 i = eV l2 i) := hall
   clear hall
   by_cases hlt : k < l1.length
   ·have hal := ha (by omega)
    subst hal
    have hal2 := ha2 (by omega)
    subst hal2
    have hlt2 : k < l2.length := by omega
    have d0 := (hb.cell (by exact cell_lt (h10 k hlt))).trans (h10 k hlt)
    have f0 := (hb.cell (by exact cell_lt (g10 k hlt2))).trans (g10 k hlt2)
    have d1 := (hb.cell (by exact cell_lt (h11 k hlt))).trans (h11 k hlt)
    have f1 := (hb.cell (by exact cell_lt (g11 k hlt2))).trans (g11 k hlt2)
    have d2 := (hb.cell (by exact cell_lt (h12 k hlt))).trans (h12 k hlt)
    have f2 := (hb.cell (by exact cell_lt (g12 k hlt2))).trans (g12 k hlt2)
    have d3 := (hb.cell (by exact cell_lt (h13 k hlt))).trans (h13 k hlt)
    have f3 := (hb.cell (by exact cell_lt (g13 k hlt2))).trans (g13 k hlt2)
    have d4 := (hb.cell (by exact cell_lt (h14 k hlt))).trans (h14 k hlt)
    have f4 := (hb.cell (by exact cell_lt (g14 k hlt2))).trans (g14 k hlt2)
    have d5 := (hb.cell (by exact cell_lt (h15 k hlt))).trans (h15 k hlt)
    have f5 := (hb.cell (by exact cell_lt (g15 k hlt2))).trans (g15 k hlt2)
    clear h10 h11 h12 h13 h14 h15 g10 g11 g12 g13 g14 g15 ha ha2
    go_wp2_with fail
    cases hq : eqEnB (eT l1 k, eC l1 k, eS l1 k, eO l1 k, eK l1 k, eV l1 k) (eT l2 k, eC l2 k, eS l2 k, eO l2 k, eK l2 k, eV l2 k)
    ·have NE : Hid (decide (l1 = l2) = false) := decide_eq_false (ne_of_eqEnB hq)
     go_region_with (go_at_call 60; refine (eqEntry_any _ _ _ _ _ _ _ _ _ _ _ _ _).mono ?_; rintro e w1 ⟨rfl, hb1⟩)
     all_goals
      go_wp2
      go_ret
      exact ⟨ret_bool NE.out.symm, hb.drew.trans (hb1.mono hb.size)⟩
    ·have EQ : Hid (eT l1 k = eT l2 k ∧ eC l1 k = eC l2 k ∧ eS l1 k = eS l2 k ∧ eO l1 k = eO l2 k ∧ eK l1 k = eK l2 k ∧ eV l1 k = eV l2 k) := by show _ ∧ _; simpa [eqEnB] using hq
     go_region_with (go_at_call 60; refine (eqEntry_any _ _ _ _ _ _ _ _ _ _ _ _ _).mono ?_; rintro e w1 ⟨rfl, hb1⟩)
     all_goals
      go_wp2
      go_roundw
      case rel => exact ⟨k + 1, by omega, by go_num, fun i hi => if h : i < k then ALL.out i h else by rw [show i = k by omega]; exact EQ.out, hb.drew.trans (hb1.mono hb.size)⟩
      case measure => simp [intOf]; omega
   ·go_wp2
    go_ret
    refine ⟨ret_bool ?_, hb⟩
    symm
    rw [decide_eq_true_iff]
    exact el_ext HL.out (fun i hi => ALL.out i (by omega))
 ·have hne : ((l1.length : Int) != (l2.length : Int)) = true := by rw [bne_iff_ne]; omega
  go_enter Try.func54, Try.ntmps54
  go_wp2
  go_ret
  refine ⟨ret_bool ?_, Below.refl _ _⟩
  symm
  rw [decide_eq_false_iff_not]
  intro h; exact hl (by rw [h])

theorem Try.info136 : (Try.prog.info? 136).map (fun i => (i.zero, i.size, i.bytes)) = some (some (.agg #[.int .i64 0, .int .i64 0, .int .i64 0, .int .i64 0, .int .i64 0, .int .i64 0]), 6, 48) := by kernel_rfl

def filledE (l : EL) (k : Nat) : EL := l.take k ++ List.replicate (l.length - k) en0
theorem filledE_length (l : EL) (k : Nat) (hk : k ≤ l.length) : (filledE l k).length = l.length := by simp [filledE]; omega
theorem filledE_full (l : EL) : filledE l l.length = l := by simp [filledE]
theorem filledE_step (l : EL) (k : Nat) (hk : k < l.length) : (filledE l k).set k (eT l k, eC l k, eS l k, eO l k, eK l k, eV l k) = filledE l (k + 1) := by
 obtain ⟨m, hm⟩ : ∃ m, l.length - k = m + 1 := ⟨l.length - k - 1, by omega⟩
 rw [filledE, filledE, take_succE l k hk, hm, show l.length - (k + 1) = m by omega, List.replicate_succ, List.set_append_right _ _ (by simp; omega)]
 simp [show min k l.length = k by omega]
theorem flatE_zero (n : Nat) : flatE (List.replicate n en0) = List.replicate (n * 6) (.int .i64 0) := by
 induction n with
 | zero => rfl
 | succ n ih => rw [List.replicate_succ, flatE_cons, ih, show (n + 1) * 6 = n * 6 + 1 + 1 + 1 + 1 + 1 + 1 by omega]; simp only [List.replicate_succ]
theorem madeCells_ent (n : Nat) : (madeCells #[.int .i64 0, .int .i64 0, .int .i64 0, .int .i64 0, .int .i64 0, .int .i64 0] (n * 6)).toList = flatE (List.replicate n en0) := by
 rw [flatE_zero]
 exact madeCells_all _ _ (by decide) (fun i hi => by rcases (show i = 0 ∨ i = 1 ∨ i = 2 ∨ i = 3 ∨ i = 4 ∨ i = 5 by have : i < 6 := hi; omega) with rfl | rfl | rfl | rfl | rfl | rfl <;> rfl) _
end
end Go.Proofs.Ythfmifdpldmbaaa

namespace Go.Proofs.Ythfmifdpldmbaaa
section
open Go.RowKit

def cmdOkB (c s o k v : Int) : Bool := (c == 0 && s == 0 && o == 0 && k == 0 && v == 0) || (inB c 1 9 && inB s 1 100000 && msgOkB o k v)

abbrev cmdV (c s o k v : Int) : Value := .agg #[.int .i64 c, .int .i64 s, .int .i64 o, .int .i64 k, .int .i64 v]

theorem five_at {W : World} {R : Nat} {t : TypeId} {x0 x1 x2 x3 x4 : Value} (a b c d e : Value) (h : W.heap[R]? = some (.cells #[x0, x1, x2, x3, x4] t (0, 0))) : (((((W.setCell ⟨R, 0, none⟩ a).setCell ⟨R, 1, none⟩ b).setCell ⟨R, 2, none⟩ c).setCell ⟨R, 3, none⟩ d).setCell ⟨R, 4, none⟩ e).heap[R]? = some (.cells #[a, b, c, d, e] t (0, 0)) := by
 have h0 := heap_setCell_same W R 0 _ _ a h
 have h1 := heap_setCell_same _ R 1 _ _ b h0
 have h2 := heap_setCell_same _ R 2 _ _ c h1
 have h3 := heap_setCell_same _ R 3 _ _ d h2
 have h4 := heap_setCell_same _ R 4 _ _ e h3
 simpa using h4
theorem late_at {W : World} {R : Nat} {t : TypeId} {x0 x1 x2 x3 x4 : Value} (c d e : Value) (h : W.heap[R]? = some (.cells #[x0, x1, x2, x3, x4] t (0, 0))) : (((W.setCell ⟨R, 2, none⟩ c).setCell ⟨R, 3, none⟩ d).setCell ⟨R, 4, none⟩ e).heap[R]? = some (.cells #[x0, x1, c, d, e] t (0, 0)) := by
 have h2 := heap_setCell_same _ R 2 _ _ c h
 have h3 := heap_setCell_same _ R 3 _ _ d h2
 have h4 := heap_setCell_same _ R 4 _ _ e h3
 simpa using h4
theorem five_chg (W : World) (R : Nat) (a b c d e : Value) : Chg (fun g => g = R) W (((((W.setCell ⟨R, 0, none⟩ a).setCell ⟨R, 1, none⟩ b).setCell ⟨R, 2, none⟩ c).setCell ⟨R, 3, none⟩ d).setCell ⟨R, 4, none⟩ e) :=
 (((((Chg.refl (fun g => g = R) W).setAt R 0 rfl a).setAt R 1 rfl b).setAt R 2 rfl c).setAt R 3 rfl d).setAt R 4 rfl e
theorem late_chg (W : World) (R : Nat) (c d e : Value) : Chg (fun g => g = R) W (((W.setCell ⟨R, 2, none⟩ c).setCell ⟨R, 3, none⟩ d).setCell ⟨R, 4, none⟩ e) :=
 (((Chg.refl (fun g => g = R) W).setAt R 2 rfl c).setAt R 3 rfl d).setAt R 4 rfl e

theorem toCmd_any (c s o k v : Int) (w : World) :
  Calls Try.prog 31 #[cmdV c s o k v] w fun e w' => e = .returned (cmdV c s o k v) ∧ Below w.heap.size w w' := by
 have b0 : Below w.heap.size w (((w.alloc (.cells #[.int .i64 c, .int .i64 s, .int .i64 o, .int .i64 k, .int .i64 v] 102)).alloc (.cells #[.int .i64 0, .int .i64 0, .int .i64 0, .int .i64 0, .int .i64 0] 49)).alloc (.cells #[.int .i64 c, .int .i64 s, .int .i64 0, .int .i64 0, .int .i64 0] 49)) := (((Below.refl _ _).alloc (Nat.le_refl _) _).alloc (by simp) _).alloc (by simp; omega) _
 have n2 := heap_alloc_new ((w.alloc (.cells #[.int .i64 c, .int .i64 s, .int .i64 o, .int .i64 k, .int .i64 v] 102)).alloc (.cells #[.int .i64 0, .int .i64 0, .int .i64 0, .int .i64 0, .int .i64 0] 49)) (.cells #[.int .i64 c, .int .i64 s, .int .i64 0, .int .i64 0, .int .i64 0] 49)
 have n1 := row_chg (F := fun _ => False) (heap_alloc_new (w.alloc (.cells #[.int .i64 c, .int .i64 s, .int .i64 o, .int .i64 k, .int .i64 v] 102)) (.cells #[.int .i64 0, .int .i64 0, .int .i64 0, .int .i64 0, .int .i64 0] 49)) ((Chg.refl _ _).alloc (.cells #[.int .i64 c, .int .i64 s, .int .i64 0, .int .i64 0, .int .i64 0] 49)) id
 simp only [World.size_alloc] at n1 n2
 have H : Hid _ := And.intro b0 (And.intro n1 n2)
 clear b0 n1 n2
 go_enter Try.func31, Try.ntmps31
 go_wp2_with fail
 generalize (((w.alloc (.cells #[.int .i64 c, .int .i64 s, .int .i64 o, .int .i64 k, .int .i64 v] 102)).alloc (.cells #[.int .i64 0, .int .i64 0, .int .i64 0, .int .i64 0, .int .i64 0] 49)).alloc (.cells #[.int .i64 c, .int .i64 s, .int .i64 0, .int .i64 0, .int .i64 0] 49)) = W at *
 refine (toMsg_any _ _ _ _).mono ?_
 rintro e w1 ⟨rfl, hb⟩
 obtain ⟨b0, n1, n2⟩ := H.out
 have m1 := (hb.block _ (Array.getElem?_eq_some_iff.1 n1).1).trans n1
 have m2 := (hb.block _ (Array.getElem?_eq_some_iff.1 n2).1).trans n2
 have B1 := Below.and b0 hb
 have m3 := late_at (.int .i64 o) (.int .i64 k) (.int .i64 v) m2
 have g3 := late_chg w1 (w.heap.size + 1 + 1) (.int .i64 o) (.int .i64 k) (.int .i64 v)
 have m4 := row_chg m1 g3 (by omega)
 have m5 := five_at (.int .i64 c) (.int .i64 s) (.int .i64 o) (.int .i64 k) (.int .i64 v) m4
 have g5 := five_chg (((w1.setCell ⟨w.heap.size + 1 + 1, 2, none⟩ (.int .i64 o)).setCell ⟨w.heap.size + 1 + 1, 3, none⟩ (.int .i64 k)).setCell ⟨w.heap.size + 1 + 1, 4, none⟩ (.int .i64 v)) (w.heap.size + 1) (.int .i64 c) (.int .i64 s) (.int .i64 o) (.int .i64 k) (.int .i64 v)
 have B2 := B1.trans (g3.below (fun g _ hg => by omega) B1.size)
 have B3 : Hid _ := B2.trans (g5.below (fun g _ hg => by omega) B2.size)
 have f1 : ∀ j, w1.frozen? ⟨w.heap.size + 1 + 1, j, none⟩ = false := fun j => frozen_of_cells m2
 have f2 : ∀ j, (((w1.setCell ⟨w.heap.size + 1 + 1, 2, none⟩ (.int .i64 o)).setCell ⟨w.heap.size + 1 + 1, 3, none⟩ (.int .i64 k)).setCell ⟨w.heap.size + 1 + 1, 4, none⟩ (.int .i64 v)).frozen? ⟨w.heap.size + 1, j, none⟩ = false := fun j => frozen_of_cells m4
 have c2 : ∀ j, w1.cell? ⟨w.heap.size + 1 + 1, j, none⟩ = (#[.int .i64 c, .int .i64 s, .int .i64 0, .int .i64 0, .int .i64 0] : Array Value)[j]? := fun j => cell_of_cells m2
 have c3 : ∀ j, (((w1.setCell ⟨w.heap.size + 1 + 1, 2, none⟩ (.int .i64 o)).setCell ⟨w.heap.size + 1 + 1, 3, none⟩ (.int .i64 k)).setCell ⟨w.heap.size + 1 + 1, 4, none⟩ (.int .i64 v)).cell? ⟨w.heap.size + 1 + 1, j, none⟩ = (#[.int .i64 c, .int .i64 s, .int .i64 o, .int .i64 k, .int .i64 v] : Array Value)[j]? := fun j => cell_of_cells m3
 have c4 : ∀ j, (((w1.setCell ⟨w.heap.size + 1 + 1, 2, none⟩ (.int .i64 o)).setCell ⟨w.heap.size + 1 + 1, 3, none⟩ (.int .i64 k)).setCell ⟨w.heap.size + 1 + 1, 4, none⟩ (.int .i64 v)).cell? ⟨w.heap.size + 1, j, none⟩ = (#[.int .i64 0, .int .i64 0, .int .i64 0, .int .i64 0, .int .i64 0] : Array Value)[j]? := fun j => cell_of_cells m4
 have c5 : Hid _ := m5
 clear m1 m2 m3 m4 m5 g3 g5 B1 B2 n1 n2 b0 hb H
 go_wp2_with fail
 simp [bodyPost, results, Try.results31, go_sem, cell_of_cells c5.out]
 exact B3.out
end
section
open Go.RowKit

theorem en_six {W : World} {R : Nat} {t : TypeId} {x0 x1 x2 x3 x4 x5 : Value} (a b c d e f : Value) (h : W.heap[R]? = some (.cells #[x0, x1, x2, x3, x4, x5] t (0, 0))) : ((((((W.setCell ⟨R, 0, none⟩ a).setCell ⟨R, 1, none⟩ b).setCell ⟨R, 2, none⟩ c).setCell ⟨R, 3, none⟩ d).setCell ⟨R, 4, none⟩ e).setCell ⟨R, 5, none⟩ f).heap[R]? = some (.cells #[a, b, c, d, e, f] t (0, 0)) := by
 have h0 := heap_setCell_same W R 0 _ _ a h
 have h1 := heap_setCell_same _ R 1 _ _ b h0
 have h2 := heap_setCell_same _ R 2 _ _ c h1
 have h3 := heap_setCell_same _ R 3 _ _ d h2
 have h4 := heap_setCell_same _ R 4 _ _ e h3
 have h5 := heap_setCell_same _ R 5 _ _ f h4
 simpa using h5
theorem en_late {W : World} {R : Nat} {t : TypeId} {x0 x1 x2 x3 x4 x5 : Value} (b c d e f : Value) (h : W.heap[R]? = some (.cells #[x0, x1, x2, x3, x4, x5] t (0, 0))) : (((((W.setCell ⟨R, 1, none⟩ b).setCell ⟨R, 2, none⟩ c).setCell ⟨R, 3, none⟩ d).setCell ⟨R, 4, none⟩ e).setCell ⟨R, 5, none⟩ f).heap[R]? = some (.cells #[x0, b, c, d, e, f] t (0, 0)) := by
 have h1 := heap_setCell_same _ R 1 _ _ b h
 have h2 := heap_setCell_same _ R 2 _ _ c h1
 have h3 := heap_setCell_same _ R 3 _ _ d h2
 have h4 := heap_setCell_same _ R 4 _ _ e h3
 have h5 := heap_setCell_same _ R 5 _ _ f h4
 simpa using h5
theorem en_six_chg (W : World) (R : Nat) (a b c d e f : Value) : Chg (fun g => g = R) W ((((((W.setCell ⟨R, 0, none⟩ a).setCell ⟨R, 1, none⟩ b).setCell ⟨R, 2, none⟩ c).setCell ⟨R, 3, none⟩ d).setCell ⟨R, 4, none⟩ e).setCell ⟨R, 5, none⟩ f) :=
 ((((((Chg.refl (fun g => g = R) W).setAt R 0 rfl a).setAt R 1 rfl b).setAt R 2 rfl c).setAt R 3 rfl d).setAt R 4 rfl e).setAt R 5 rfl f
theorem en_late_chg (W : World) (R : Nat) (b c d e f : Value) : Chg (fun g => g = R) W (((((W.setCell ⟨R, 1, none⟩ b).setCell ⟨R, 2, none⟩ c).setCell ⟨R, 3, none⟩ d).setCell ⟨R, 4, none⟩ e).setCell ⟨R, 5, none⟩ f) :=
 (((((Chg.refl (fun g => g = R) W).setAt R 1 rfl b).setAt R 2 rfl c).setAt R 3 rfl d).setAt R 4 rfl e).setAt R 5 rfl f

theorem toEntry_any (t c s o k v : Int) (w : World) :
  Calls Try.prog 58 #[enV t c s o k v] w fun e w' => e = .returned (enV t c s o k v) ∧ Below w.heap.size w w' := by
 have b0 : Below w.heap.size w (((w.alloc (.cells #[.int .i64 t, .int .i64 c, .int .i64 s, .int .i64 o, .int .i64 k, .int .i64 v] 139)).alloc (.cells #[.int .i64 0, .int .i64 0, .int .i64 0, .int .i64 0, .int .i64 0, .int .i64 0] 136)).alloc (.cells #[.int .i64 t, .int .i64 0, .int .i64 0, .int .i64 0, .int .i64 0, .int .i64 0] 136)) := (((Below.refl _ _).alloc (Nat.le_refl _) _).alloc (by simp) _).alloc (by simp; omega) _
 have n2 := heap_alloc_new ((w.alloc (.cells #[.int .i64 t, .int .i64 c, .int .i64 s, .int .i64 o, .int .i64 k, .int .i64 v] 139)).alloc (.cells #[.int .i64 0, .int .i64 0, .int .i64 0, .int .i64 0, .int .i64 0, .int .i64 0] 136)) (.cells #[.int .i64 t, .int .i64 0, .int .i64 0, .int .i64 0, .int .i64 0, .int .i64 0] 136)
 have n1 := row_chg (F := fun _ => False) (heap_alloc_new (w.alloc (.cells #[.int .i64 t, .int .i64 c, .int .i64 s, .int .i64 o, .int .i64 k, .int .i64 v] 139)) (.cells #[.int .i64 0, .int .i64 0, .int .i64 0, .int .i64 0, .int .i64 0, .int .i64 0] 136)) ((Chg.refl _ _).alloc (.cells #[.int .i64 t, .int .i64 0, .int .i64 0, .int .i64 0, .int .i64 0, .int .i64 0] 136)) id
 simp only [World.size_alloc] at n1 n2
 have H : Hid _ := And.intro b0 (And.intro n1 n2)
 clear b0 n1 n2
 go_enter Try.func58, Try.ntmps58
 go_wp2_with fail
 generalize (((w.alloc (.cells #[.int .i64 t, .int .i64 c, .int .i64 s, .int .i64 o, .int .i64 k, .int .i64 v] 139)).alloc (.cells #[.int .i64 0, .int .i64 0, .int .i64 0, .int .i64 0, .int .i64 0, .int .i64 0] 136)).alloc (.cells #[.int .i64 t, .int .i64 0, .int .i64 0, .int .i64 0, .int .i64 0, .int .i64 0] 136)) = W at *
 refine (toCmd_any _ _ _ _ _ _).mono ?_
 rintro e w1 ⟨rfl, hb⟩
 obtain ⟨b0, n1, n2⟩ := H.out
 have m1 := (hb.block _ (Array.getElem?_eq_some_iff.1 n1).1).trans n1
 have m2 := (hb.block _ (Array.getElem?_eq_some_iff.1 n2).1).trans n2
 have B1 := Below.and b0 hb
 have m3 := en_late (.int .i64 c) (.int .i64 s) (.int .i64 o) (.int .i64 k) (.int .i64 v) m2
 have g3 := en_late_chg w1 (w.heap.size + 1 + 1) (.int .i64 c) (.int .i64 s) (.int .i64 o) (.int .i64 k) (.int .i64 v)
 have m4 := row_chg m1 g3 (by omega)
 have m5 := en_six (.int .i64 t) (.int .i64 c) (.int .i64 s) (.int .i64 o) (.int .i64 k) (.int .i64 v) m4
 have g5 := en_six_chg (((((w1.setCell ⟨w.heap.size + 1 + 1, 1, none⟩ (.int .i64 c)).setCell ⟨w.heap.size + 1 + 1, 2, none⟩ (.int .i64 s)).setCell ⟨w.heap.size + 1 + 1, 3, none⟩ (.int .i64 o)).setCell ⟨w.heap.size + 1 + 1, 4, none⟩ (.int .i64 k)).setCell ⟨w.heap.size + 1 + 1, 5, none⟩ (.int .i64 v)) (w.heap.size + 1) (.int .i64 t) (.int .i64 c) (.int .i64 s) (.int .i64 o) (.int .i64 k) (.int .i64 v)
 have B2 := B1.trans (g3.below (fun g _ hg => by omega) B1.size)
 have B3 : Hid _ := B2.trans (g5.below (fun g _ hg => by omega) B2.size)
 have f1 : ∀ j, w1.frozen? ⟨w.heap.size + 1 + 1, j, none⟩ = false := fun j => frozen_of_cells m2
 have f2 : ∀ j, (((((w1.setCell ⟨w.heap.size + 1 + 1, 1, none⟩ (.int .i64 c)).setCell ⟨w.heap.size + 1 + 1, 2, none⟩ (.int .i64 s)).setCell ⟨w.heap.size + 1 + 1, 3, none⟩ (.int .i64 o)).setCell ⟨w.heap.size + 1 + 1, 4, none⟩ (.int .i64 k)).setCell ⟨w.heap.size + 1 + 1, 5, none⟩ (.int .i64 v)).frozen? ⟨w.heap.size + 1, j, none⟩ = false := fun j => frozen_of_cells m4
 have c2 : ∀ j, w1.cell? ⟨w.heap.size + 1 + 1, j, none⟩ = (#[.int .i64 t, .int .i64 0, .int .i64 0, .int .i64 0, .int .i64 0, .int .i64 0] : Array Value)[j]? := fun j => cell_of_cells m2
 have c3 : ∀ j, (((((w1.setCell ⟨w.heap.size + 1 + 1, 1, none⟩ (.int .i64 c)).setCell ⟨w.heap.size + 1 + 1, 2, none⟩ (.int .i64 s)).setCell ⟨w.heap.size + 1 + 1, 3, none⟩ (.int .i64 o)).setCell ⟨w.heap.size + 1 + 1, 4, none⟩ (.int .i64 k)).setCell ⟨w.heap.size + 1 + 1, 5, none⟩ (.int .i64 v)).cell? ⟨w.heap.size + 1 + 1, j, none⟩ = (#[.int .i64 t, .int .i64 c, .int .i64 s, .int .i64 o, .int .i64 k, .int .i64 v] : Array Value)[j]? := fun j => cell_of_cells m3
 have c4 : ∀ j, (((((w1.setCell ⟨w.heap.size + 1 + 1, 1, none⟩ (.int .i64 c)).setCell ⟨w.heap.size + 1 + 1, 2, none⟩ (.int .i64 s)).setCell ⟨w.heap.size + 1 + 1, 3, none⟩ (.int .i64 o)).setCell ⟨w.heap.size + 1 + 1, 4, none⟩ (.int .i64 k)).setCell ⟨w.heap.size + 1 + 1, 5, none⟩ (.int .i64 v)).cell? ⟨w.heap.size + 1, j, none⟩ = (#[.int .i64 0, .int .i64 0, .int .i64 0, .int .i64 0, .int .i64 0, .int .i64 0] : Array Value)[j]? := fun j => cell_of_cells m4
 have c5 : Hid _ := m5
 clear m1 m2 m3 m4 m5 g3 g5 B1 B2 n1 n2 b0 hb H
 go_wp2_with fail
 simp [bodyPost, results, Try.results58, go_sem, cell_of_cells c5.out]
 exact B3.out

theorem toEntryS_any (v : Value) (l : EL) (w : World) (hr : Row w v l.length (flatE l)) (hn : l.length ≤ 1048576) :
  Calls Try.prog 48 #[v] w fun e w' => ∃ v', e = .returned v' ∧ w'.ownsRow w.heap.size 136 6 v' l.length (flatE l) ∧ Below w.heap.size w w' := by
 obtain ⟨a, b, off, cap, rfl, hcap, hmax, ha, h10, h11, h12, h13, h14, h15⟩ := hr.ents
 obtain ⟨i0, hi, hz0, hz1, hz2⟩ := info_parts Try.info136
 unfold maxLen at hmax
 go_enter Try.func48, Try.ntmps48
 go_wp2_with (at_make; refine wpList_make_full _ rfl _ _ 83 rfl w.heap.size 136 i0 _ 6 Try.underlying83 hi hz0 hz1 .i64 .i64 _ _ l.length rfl rfl rfl rfl ?c1 ?c2 ?c3 ?_)
 case c1 => rw [hz2]; omega
 case c2 => unfold maxLen; omega
 case c3 => exact Nat.le_refl _
 intro w0 hown0 hgrow0
 have hb0 : Below w.heap.size w w0 := (Below.refl _ _).grown hgrow0 (Nat.le_refl _) (fun k hk => by cases hk)
 clear hgrow0
 go_wp2
 go_loopw [4] (fun i wr => ∃ k : Nat, k ≤ l.length ∧ i = .int .i64 k ∧ wr.ownsRow w.heap.size 136 6 (.slice (some ⟨w.heap.size, 0, none⟩) l.length l.length) l.length (flatE (filledE l k)) ∧ Below w.heap.size w wr)
  (fun i _ => l.length - (intOf i).toNat)
 case atStart => exact ⟨0, Nat.zero_le _, rfl, by rw [show (madeCells _ (l.length * 6)).toList = flatE (List.replicate l.length en0) from madeCells_ent l.length] at hown0; rw [show filledE l 0 = List.replicate l.length en0 by simp [filledE]]; exact hown0, hb0⟩
 case round =>
  obtain ⟨k, hkl, rfl, hown, hb⟩ := hrel
  clear hown0 hb0
  by_cases hlt : k < l.length
  ·have hal := ha (by omega)
   subst hal
   have d0 := (hb.cell (by exact cell_lt (h10 k hlt))).trans (h10 k hlt)
   have d1 := (hb.cell (by exact cell_lt (h11 k hlt))).trans (h11 k hlt)
   have d2 := (hb.cell (by exact cell_lt (h12 k hlt))).trans (h12 k hlt)
   have d3 := (hb.cell (by exact cell_lt (h13 k hlt))).trans (h13 k hlt)
   have d4 := (hb.cell (by exact cell_lt (h14 k hlt))).trans (h14 k hlt)
   have d5 := (hb.cell (by exact cell_lt (h15 k hlt))).trans (h15 k hlt)
   clear h10 h11 h12 h13 h14 h15 ha
   go_wp2_with fail
   refine (toEntry_any _ _ _ _ _ _ _).mono ?_
   rintro e w1 ⟨rfl, hb1⟩
   have own1 := owns_below hown hb1
   have hfl : (filledE l k).length = l.length := filledE_length l k hkl
   have hat := flatE_at (filledE l k) k (by omega)
   have e0 := (own1.cellAt (k * 6) (by omega)).trans hat.1
   have f0 := own1.frozenAt (k * 6)
   have e1 := (own1.cellAt (k * 6 + 1) (by omega)).trans hat.2.1
   have f1 := own1.frozenAt (k * 6 + 1)
   have e2 := (own1.cellAt (k * 6 + 2) (by omega)).trans hat.2.2.1
   have f2 := own1.frozenAt (k * 6 + 2)
   have e3 := (own1.cellAt (k * 6 + 3) (by omega)).trans hat.2.2.2.1
   have f3 := own1.frozenAt (k * 6 + 3)
   have e4 := (own1.cellAt (k * 6 + 4) (by omega)).trans hat.2.2.2.2.1
   have f4 := own1.frozenAt (k * 6 + 4)
   have e5 := (own1.cellAt (k * 6 + 5) (by omega)).trans hat.2.2.2.2.2
   have f5 := own1.frozenAt (k * 6 + 5)
   have st0 := (own1.stored (k * 6) (.int .i64 (eT l k))).1
   have st1 := (st0.stored (k * 6 + 1) (.int .i64 (eC l k))).1
   have st2 := (st1.stored (k * 6 + 2) (.int .i64 (eS l k))).1
   have st3 := (st2.stored (k * 6 + 3) (.int .i64 (eO l k))).1
   have st4 := (st3.stored (k * 6 + 4) (.int .i64 (eK l k))).1
   have st5 := (st4.stored (k * 6 + 5) (.int .i64 (eV l k))).1
   rw [flatE_set _ _ _ _ _ _ _ k (by omega), filledE_step l k hlt] at st5
   have hb2 : Below w.heap.size w w1 := hb.trans (hb1.mono hb.size)
   generalize eT (filledE l k) k = x0 at *
   generalize eC (filledE l k) k = x1 at *
   generalize eS (filledE l k) k = x2 at *
   generalize eO (filledE l k) k = x3 at *
   generalize eK (filledE l k) k = x4 at *
   generalize eV (filledE l k) k = x5 at *
   have ST : Hid _ := st5
   clear st0 st1 st2 st3 st4 st5 hown hb1 d0 d1 d2 d3 d4 d5 own1 hat hfl hr
   go_wp2
   go_roundw
   case rel => exact ⟨k + 1, by omega, by go_num, ST.out, ((((((hb2.setCell (Nat.le_refl _) _).setCell (Nat.le_refl _) _).setCell (Nat.le_refl _) _).setCell (Nat.le_refl _) _).setCell (Nat.le_refl _) _).setCell (Nat.le_refl _) _)⟩
   case measure => simp [intOf]; omega
  ·go_wp2
   go_ret
   have hkk : k = l.length := by omega
   subst hkk
   rw [filledE_full] at hown
   exact ⟨_, rfl, hown, hb⟩
end
end Go.Proofs.Ythfmifdpldmbaaa
