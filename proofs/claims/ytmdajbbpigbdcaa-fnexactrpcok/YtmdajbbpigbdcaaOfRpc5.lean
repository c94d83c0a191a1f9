/-
  Entries of a log as rows of cells; the laws' own functions on them.
  The program's MsgOk.
  Commands: toCmd, CmdOk of both sides, the walk of the law FnExactCmdOk.
-/
import Derived.Test.YtmdajbbpigbdcaaOfRpc2
import Derived.Deep.RegionHeld3
import Derived.Test.YtmdajbbpigbdcaaOfRpc1
namespace Go.Proofs.Ytmdajbbpigbdcaa
open Go.RowKit

abbrev En := Int × Int × Int × Int × Int × Int
abbrev EL := List En
abbrev en0 : En := (0, 0, 0, 0, 0, 0)
def eT (l : EL) (i : Nat) : Int := (l.getD i en0).1
def eC (l : EL) (i : Nat) : Int := (l.getD i en0).2.1
def eS (l : EL) (i : Nat) : Int := (l.getD i en0).2.2.1
def eO (l : EL) (i : Nat) : Int := (l.getD i en0).2.2.2.1
def eK (l : EL) (i : Nat) : Int := (l.getD i en0).2.2.2.2.1
def eV (l : EL) (i : Nat) : Int := (l.getD i en0).2.2.2.2.2
theorem el_at (l : EL) (i : Nat) (h : i < l.length) : l[i] = (eT l i, eC l i, eS l i, eO l i, eK l i, eV l i) := by simp [eT, eC, eS, eO, eK, eV, List.getD, h]
theorem el_ext {l1 l2 : EL} (hl : l1.length = l2.length) (h : ∀ i, i < l1.length → eT l1 i = eT l2 i ∧ eC l1 i = eC l2 i ∧ eS l1 i = eS l2 i ∧ eO l1 i = eO l2 i ∧ eK l1 i = eK l2 i ∧ eV l1 i = eV l2 i) : l1 = l2 := by
  apply List.ext_getElem hl
  intro i h1 h2
  rw [el_at l1 i h1, el_at l2 i h2, (h i h1).1, (h i h1).2.1, (h i h1).2.2.1, (h i h1).2.2.2.1, (h i h1).2.2.2.2.1, (h i h1).2.2.2.2.2]
theorem take_succE (l : EL) (k : Nat) (hk : k < l.length) : l.take (k + 1) = l.take k ++ [(eT l k, eC l k, eS l k, eO l k, eK l k, eV l k)] := by
  rw [List.take_succ_eq_append_getElem hk, el_at l k hk]
/-- the cells of a list of entries -/
def flatE (l : EL) : List Value := l.flatMap fun m => [.int .i64 m.1, .int .i64 m.2.1, .int .i64 m.2.2.1, .int .i64 m.2.2.2.1, .int .i64 m.2.2.2.2.1, .int .i64 m.2.2.2.2.2]
theorem flatE_cons (m : En) (l : EL) : flatE (m :: l) = .int .i64 m.1 :: .int .i64 m.2.1 :: .int .i64 m.2.2.1 :: .int .i64 m.2.2.2.1 :: .int .i64 m.2.2.2.2.1 :: .int .i64 m.2.2.2.2.2 :: flatE l := rfl
theorem flatE_length (l : EL) : (flatE l).length = l.length * 6 := by
  induction l with
  | nil => rfl
  | cons a l ih => rw [flatE_cons]; simp only [List.length_cons]; omega
theorem flatE_at (l : EL) : ∀ i, i < l.length → (flatE l)[i * 6]? = some (.int .i64 (eT l i)) ∧ (flatE l)[i * 6 + 1]? = some (.int .i64 (eC l i)) ∧ (flatE l)[i * 6 + 2]? = some (.int .i64 (eS l i)) ∧ (flatE l)[i * 6 + 3]? = some (.int .i64 (eO l i)) ∧ (flatE l)[i * 6 + 4]? = some (.int .i64 (eK l i)) ∧ (flatE l)[i * 6 + 5]? = some (.int .i64 (eV l i)) := by
  induction l with
  | nil => intro i h; simp at h
  | cons a l ih =>
    intro i h
    cases i with
    | zero => simp [flatE_cons, eT, eC, eS, eO, eK, eV]
    | succ i =>
      have := ih i (by simpa using h)
      have e0 : (i + 1) * 6 = (i * 6) + 1 + 1 + 1 + 1 + 1 + 1 := by omega
      have e1 : (i + 1) * 6 + 1 = (i * 6 + 1) + 1 + 1 + 1 + 1 + 1 + 1 := by omega
      have e2 : (i + 1) * 6 + 2 = (i * 6 + 2) + 1 + 1 + 1 + 1 + 1 + 1 := by omega
      have e3 : (i + 1) * 6 + 3 = (i * 6 + 3) + 1 + 1 + 1 + 1 + 1 + 1 := by omega
      have e4 : (i + 1) * 6 + 4 = (i * 6 + 4) + 1 + 1 + 1 + 1 + 1 + 1 := by omega
      have e5 : (i + 1) * 6 + 5 = (i * 6 + 5) + 1 + 1 + 1 + 1 + 1 + 1 := by omega
      rw [e5, e4, e3, e2, e1, e0, flatE_cons]
      simpa [eT, eC, eS, eO, eK, eV] using this
theorem flatE_set (l : EL) (x0 x1 x2 x3 x4 x5 : Int) : ∀ i, i < l.length → ((((((flatE l).set (i * 6) (.int .i64 x0)).set (i * 6 + 1) (.int .i64 x1)).set (i * 6 + 2) (.int .i64 x2)).set (i * 6 + 3) (.int .i64 x3)).set (i * 6 + 4) (.int .i64 x4)).set (i * 6 + 5) (.int .i64 x5) = flatE (l.set i (x0, x1, x2, x3, x4, x5)) := by
  induction l with
  | nil => intro i h; simp at h
  | cons p l ih =>
    intro i h
    cases i with
    | zero => simp [flatE_cons]
    | succ i =>
      have := ih i (by simpa using h)
      rw [flatE_cons, List.set_cons_succ, flatE_cons, show (i + 1) * 6 + 5 = (i * 6 + 5) + 1 + 1 + 1 + 1 + 1 + 1 by omega, show (i + 1) * 6 + 4 = (i * 6 + 4) + 1 + 1 + 1 + 1 + 1 + 1 by omega, show (i + 1) * 6 + 3 = (i * 6 + 3) + 1 + 1 + 1 + 1 + 1 + 1 by omega, show (i + 1) * 6 + 2 = (i * 6 + 2) + 1 + 1 + 1 + 1 + 1 + 1 by omega, show (i + 1) * 6 + 1 = (i * 6 + 1) + 1 + 1 + 1 + 1 + 1 + 1 by omega, show (i + 1) * 6 = (i * 6) + 1 + 1 + 1 + 1 + 1 + 1 by omega]
      simp only [List.set_cons_succ]
      rw [this]
theorem Row.ents {w : World} {v : Value} {l : EL} (h : Row w v l.length (flatE l)) :
    ∃ (a : Option Addr) (b off cap : Nat), v = .slice a l.length cap ∧ l.length ≤ cap ∧ cap ≤ maxLen ∧ (0 < l.length → a = some ⟨b, off, none⟩) ∧
      (∀ i, i < l.length → w.cell? ⟨b, off + i * 6, none⟩ = some (.int .i64 (eT l i))) ∧ (∀ i, i < l.length → w.cell? ⟨b, off + i * 6 + 1, none⟩ = some (.int .i64 (eC l i))) ∧ (∀ i, i < l.length → w.cell? ⟨b, off + i * 6 + 2, none⟩ = some (.int .i64 (eS l i))) ∧ (∀ i, i < l.length → w.cell? ⟨b, off + i * 6 + 3, none⟩ = some (.int .i64 (eO l i))) ∧ (∀ i, i < l.length → w.cell? ⟨b, off + i * 6 + 4, none⟩ = some (.int .i64 (eK l i))) ∧ (∀ i, i < l.length → w.cell? ⟨b, off + i * 6 + 5, none⟩ = some (.int .i64 (eV l i))) := by
  obtain ⟨a, b, off, cap, h1, h2, h3, h4, h5, _⟩ := h
  exact ⟨a, b, off, cap, h1, h2, h3, h4, fun i hi => h5 _ _ (flatE_at l i hi).1, fun i hi => h5 _ _ (flatE_at l i hi).2.1, fun i hi => h5 _ _ (flatE_at l i hi).2.2.1, fun i hi => h5 _ _ (flatE_at l i hi).2.2.2.1, fun i hi => h5 _ _ (flatE_at l i hi).2.2.2.2.1, fun i hi => h5 _ _ (flatE_at l i hi).2.2.2.2.2⟩

set_option maxHeartbeats 400000 in
theorem szEntryS_any (a : Option Addr) (n cap : Nat) (left : Int) (hn : n ≤ maxLen) (hl : 0 ≤ left) (hl2 : left ≤ 1048576) (w : World) :
    Calls Try.prog 35 #[.slice a n cap, .int .i64 left] w fun e w' => e = .returned (.int .i64 (if (n : Int) ≤ left then left - n else -1)) ∧ w' = w := by
  unfold maxLen at hn
  by_cases h : (n : Int) ≤ left
  · go_enter Try.func35, Try.ntmps35
    go_wp2
    go_ret
    exact ⟨rfl, rfl⟩
  · go_enter Try.func35, Try.ntmps35
    go_wp2
    go_ret
    exact ⟨rfl, rfl⟩

abbrev enV (x0 x1 x2 x3 x4 x5 : Int) : Value := .agg #[.int .i64 x0, .int .i64 x1, .int .i64 x2, .int .i64 x3, .int .i64 x4, .int .i64 x5]
def eqEnB (p q : En) : Bool := decide (p = q)
theorem ne_of_eqEnB {l1 l2 : EL} {k : Nat} (h : eqEnB (eT l1 k, eC l1 k, eS l1 k, eO l1 k, eK l1 k, eV l1 k) (eT l2 k, eC l2 k, eS l2 k, eO l2 k, eK l2 k, eV l2 k) = false) : l1 ≠ l2 := by
  intro e; subst e; simp [eqEnB] at h

set_option maxHeartbeats 1000000 in
theorem eqCmd_any (c s o k v c2 s2 o2 k2 v2 : Int) (w : World) :
    Calls Try.prog 107 #[.agg #[.int .i64 c, .int .i64 s, .int .i64 o, .int .i64 k, .int .i64 v], .agg #[.int .i64 c2, .int .i64 s2, .int .i64 o2, .int .i64 k2, .int .i64 v2]] w fun r w' => r = .returned (.bool (decide ((c, s, o, k, v) = (c2, s2, o2, k2, v2)))) ∧ Below w.heap.size w w' := by
  have B2 : Hid (Below w.heap.size w ((w.alloc (.cells #[.int .i64 c, .int .i64 s, .int .i64 o, .int .i64 k, .int .i64 v] 80)).alloc (.cells #[.int .i64 c2, .int .i64 s2, .int .i64 o2, .int .i64 k2, .int .i64 v2] 80))) := Below.and (bel_nw _ _) (bel_nw _ _)
  by_cases hc : c = c2
  · by_cases hs : s = s2
    · subst hc hs
      go_enter Try.func107, Try.ntmps107
      go_wp2_with fail
      generalize (w.alloc (.cells #[.int .i64 c, .int .i64 s, .int .i64 o, .int .i64 k, .int .i64 v] 80)).alloc (.cells #[.int .i64 c, .int .i64 s, .int .i64 o2, .int .i64 k2, .int .i64 v2] 80) = W at *
      refine (eqMsg_any _ _ _ _ _ _ _).mono ?_
      rintro e w1 ⟨rfl, b1⟩
      have B3 : Hid (Below w.heap.size w w1) := Below.and B2.out b1
      clear b1
      have E : Hid (decide ((c, s, o, k, v) = (c, s, o2, k2, v2)) = eqMsgB o k v o2 k2 v2) := by show _ = _; simp [eqMsgB]
      generalize hq : eqMsgB o k v o2 k2 v2 = q
      cases q
      · have HQ : Hid _ := hq
        clear hq
        go_wp2
        go_ret
        exact ⟨ret_bool (E.out.trans HQ.out).symm, B3.out⟩
      · have HQ : Hid _ := hq
        clear hq
        go_wp2
        go_ret
        exact ⟨ret_bool (E.out.trans HQ.out).symm, B3.out⟩
    · have hs' : (s != s2) = true := by simpa using hs
      have E : Hid (decide ((c, s, o, k, v) = (c2, s2, o2, k2, v2)) = false) := by show _ = _; simp [hs]
      rw [E.out]
      subst hc
      go_enter Try.func107, Try.ntmps107
      go_wp2_with fail
      go_ret
      exact ⟨rfl, B2.out⟩
  · have hc' : (c != c2) = true := by simpa using hc
    have E : Hid (decide ((c, s, o, k, v) = (c2, s2, o2, k2, v2)) = false) := by show _ = _; simp [hc]
    rw [E.out]
    go_enter Try.func107, Try.ntmps107
    go_wp2_with fail
    go_ret
    exact ⟨rfl, B2.out⟩

set_option maxHeartbeats 1000000 in
theorem eqEntry_any (t c s o k v t2 c2 s2 o2 k2 v2 : Int) (w : World) :
    Calls Try.prog 75 #[enV t c s o k v, enV t2 c2 s2 o2 k2 v2] w fun r w' => r = .returned (.bool (eqEnB (t, c, s, o, k, v) (t2, c2, s2, o2, k2, v2))) ∧ Below w.heap.size w w' := by
  have B2 : Hid (Below w.heap.size w ((w.alloc (.cells #[.int .i64 t, .int .i64 c, .int .i64 s, .int .i64 o, .int .i64 k, .int .i64 v] 82)).alloc (.cells #[.int .i64 t2, .int .i64 c2, .int .i64 s2, .int .i64 o2, .int .i64 k2, .int .i64 v2] 82))) := Below.and (bel_nw _ _) (bel_nw _ _)
  by_cases hc : t = t2
  · subst hc
    go_enter Try.func75, Try.ntmps75
    go_wp2_with fail
    generalize (w.alloc (.cells #[.int .i64 t, .int .i64 c, .int .i64 s, .int .i64 o, .int .i64 k, .int .i64 v] 82)).alloc (.cells #[.int .i64 t, .int .i64 c2, .int .i64 s2, .int .i64 o2, .int .i64 k2, .int .i64 v2] 82) = W at *
    refine (eqCmd_any _ _ _ _ _ _ _ _ _ _ _).mono ?_
    rintro e w1 ⟨rfl, b1⟩
    have B3 : Hid (Below w.heap.size w w1) := Below.and B2.out b1
    clear b1
    have E : Hid (eqEnB (t, c, s, o, k, v) (t, c2, s2, o2, k2, v2) = decide ((c, s, o, k, v) = (c2, s2, o2, k2, v2))) := by show _ = _; simp [eqEnB]
    generalize hq : decide ((c, s, o, k, v) = (c2, s2, o2, k2, v2)) = q
    cases q
    · have HQ : Hid (decide ((c, s, o, k, v) = (c2, s2, o2, k2, v2)) = false) := hq
      clear hq
      go_wp2
      go_ret
      exact ⟨ret_bool (E.out.trans HQ.out).symm, B3.out⟩
    · have HQ : Hid (decide ((c, s, o, k, v) = (c2, s2, o2, k2, v2)) = true) := hq
      clear hq
      go_wp2
      go_ret
      exact ⟨ret_bool (E.out.trans HQ.out).symm, B3.out⟩
  · have hc' : (t != t2) = true := by simpa using hc
    have E : Hid (eqEnB (t, c, s, o, k, v) (t2, c2, s2, o2, k2, v2) = false) := by show _ = _; simp [eqEnB, hc]
    rw [E.out]
    go_enter Try.func75, Try.ntmps75
    go_wp2_with fail
    go_ret
    exact ⟨rfl, B2.out⟩

set_option maxHeartbeats 2000000 in
theorem eqEntryS_any (v1 v2 : Value) (l1 l2 : EL) (w : World) (h1 : Row w v1 l1.length (flatE l1)) (h2 : Row w v2 l2.length (flatE l2)) :
    Calls Try.prog 45 #[v1, v2] w fun e w' => e = .returned (.bool (decide (l1 = l2))) ∧ Below w.heap.size w w' := by
  obtain ⟨a, b, off, cap, rfl, hcap, hmax, ha, h10, h11, h12, h13, h14, h15⟩ := h1.ents
  obtain ⟨a2, b2, off2, cap2, rfl, hcap2, hmax2, ha2, g10, g11, g12, g13, g14, g15⟩ := h2.ents
  unfold maxLen at hmax hmax2
  by_cases hl : l1.length = l2.length
  · have hne : ((l1.length : Int) != (l2.length : Int)) = false := by rw [bne_eq_false_iff_eq]; omega
    have HL : Hid (l1.length = l2.length) := hl
    have hl2 : l1.length ≤ l2.length := by omega
    clear hl
    go_enter Try.func45, Try.ntmps45
    go_wp2
    go_loopw [5] (fun i wr => ∃ k : Nat, k ≤ l1.length ∧ i = .int .i64 k ∧ (∀ i, i < k → eT l1 i = eT l2 i ∧ eC l1 i = eC l2 i ∧ eS l1 i = eS l2 i ∧ eO l1 i = eO l2 i ∧ eK l1 i = eK l2 i ∧ eV l1 i = eV l2 i) ∧ Below w.heap.size w wr)
      (fun i _ => l1.length - (intOf i).toNat)
    case atStart => exact ⟨0, Nat.zero_le _, rfl, fun i hi => absurd hi (Nat.not_lt_zero _), Below.refl _ _⟩
    case round =>
      obtain ⟨k, hkl, rfl, hall, hb⟩ := hrel
      have ALL : Hid (∀ i, i < k → eT l1 i = eT l2 i ∧ eC l1 i = eC l2 i ∧ eS l1 i = eS l2 i ∧ eO l1 i = eO l2 i ∧ eK l1 i = eK l2 i ∧ eV l1 i = eV l2 i) := hall
      clear hall
      by_cases hlt : k < l1.length
      · have hal := ha (by omega)
        subst hal
        have hal2 := ha2 (by omega)
        subst hal2
        have hlt2 : k < l2.length := by omega
        have d0 := (hb.cell (by exact cell_lt (h10 k hlt))).trans (h10 k hlt)
        have f0 := (hb.cell (by exact cell_lt (g10 k hlt2))).trans (g10 k hlt2)
        have d1 := (hb.cell (by exact cell_lt (h11 k hlt))).trans (h11 k hlt)
        have f1 := (hb.cell (by exact cell_lt (g11 k hlt2))).trans (g11 k hlt2)
        have d2 := (hb.cell (by exact cell_lt (h12 k hlt))).trans (h12 k hlt)
        have f2 := (hb.cell (by exact cell_lt (g12 k hlt2))).trans (g12 k hlt2)
        have d3 := (hb.cell (by exact cell_lt (h13 k hlt))).trans (h13 k hlt)
        have f3 := (hb.cell (by exact cell_lt (g13 k hlt2))).trans (g13 k hlt2)
        have d4 := (hb.cell (by exact cell_lt (h14 k hlt))).trans (h14 k hlt)
        have f4 := (hb.cell (by exact cell_lt (g14 k hlt2))).trans (g14 k hlt2)
        have d5 := (hb.cell (by exact cell_lt (h15 k hlt))).trans (h15 k hlt)
        have f5 := (hb.cell (by exact cell_lt (g15 k hlt2))).trans (g15 k hlt2)
        clear h10 h11 h12 h13 h14 h15 g10 g11 g12 g13 g14 g15 ha ha2
        go_wp2_with fail
        cases hq : eqEnB (eT l1 k, eC l1 k, eS l1 k, eO l1 k, eK l1 k, eV l1 k) (eT l2 k, eC l2 k, eS l2 k, eO l2 k, eK l2 k, eV l2 k)
        · have NE : Hid (decide (l1 = l2) = false) := decide_eq_false (ne_of_eqEnB hq)
          go_region_with (go_at_call 75; refine (eqEntry_any _ _ _ _ _ _ _ _ _ _ _ _ _).mono ?_; rintro e w1 ⟨rfl, hb1⟩)
          all_goals
            go_wp2
            go_ret
            exact ⟨ret_bool NE.out.symm, hb.drew.trans (hb1.mono hb.size)⟩
        · have EQ : Hid (eT l1 k = eT l2 k ∧ eC l1 k = eC l2 k ∧ eS l1 k = eS l2 k ∧ eO l1 k = eO l2 k ∧ eK l1 k = eK l2 k ∧ eV l1 k = eV l2 k) := by show _ ∧ _; simpa [eqEnB] using hq
          go_region_with (go_at_call 75; refine (eqEntry_any _ _ _ _ _ _ _ _ _ _ _ _ _).mono ?_; rintro e w1 ⟨rfl, hb1⟩)
          all_goals
            go_wp2
            go_roundw
            case rel => exact ⟨k + 1, by omega, by go_num, fun i hi => if h : i < k then ALL.out i h else by rw [show i = k by omega]; exact EQ.out, hb.drew.trans (hb1.mono hb.size)⟩
            case measure => simp [intOf]; omega
      · go_wp2
        go_ret
        refine ⟨ret_bool ?_, hb⟩
        symm
        rw [decide_eq_true_iff]
        exact el_ext HL.out (fun i hi => ALL.out i (by omega))
  · have hne : ((l1.length : Int) != (l2.length : Int)) = true := by rw [bne_iff_ne]; omega
    go_enter Try.func45, Try.ntmps45
    go_wp2
    go_ret
    refine ⟨ret_bool ?_, Below.refl _ _⟩
    symm
    rw [decide_eq_false_iff_not]
    intro h; exact hl (by rw [h])

theorem Try.info82 : (Try.prog.info? 82).map (fun i => (i.zero, i.size, i.bytes)) = some (some (.agg #[.int .i64 0, .int .i64 0, .int .i64 0, .int .i64 0, .int .i64 0, .int .i64 0]), 6, 48) := by kernel_rfl

def filledE (l : EL) (k : Nat) : EL := l.take k ++ List.replicate (l.length - k) en0
theorem filledE_length (l : EL) (k : Nat) (hk : k ≤ l.length) : (filledE l k).length = l.length := by simp [filledE]; omega
theorem filledE_full (l : EL) : filledE l l.length = l := by simp [filledE]
theorem filledE_step (l : EL) (k : Nat) (hk : k < l.length) : (filledE l k).set k (eT l k, eC l k, eS l k, eO l k, eK l k, eV l k) = filledE l (k + 1) := by
  obtain ⟨m, hm⟩ : ∃ m, l.length - k = m + 1 := ⟨l.length - k - 1, by omega⟩
  rw [filledE, filledE, take_succE l k hk, hm, show l.length - (k + 1) = m by omega, List.replicate_succ, List.set_append_right _ _ (by simp; omega)]
  simp [show min k l.length = k by omega]
theorem flatE_zero (n : Nat) : flatE (List.replicate n en0) = List.replicate (n * 6) (.int .i64 0) := by
  induction n with
  | zero => rfl
  | succ n ih => rw [List.replicate_succ, flatE_cons, ih, show (n + 1) * 6 = n * 6 + 1 + 1 + 1 + 1 + 1 + 1 by omega]; simp only [List.replicate_succ]
theorem madeCells_ent (n : Nat) : (madeCells #[.int .i64 0, .int .i64 0, .int .i64 0, .int .i64 0, .int .i64 0, .int .i64 0] (n * 6)).toList = flatE (List.replicate n en0) := by
  rw [flatE_zero]
  exact madeCells_all _ _ (by decide) (fun i hi => by rcases (show i = 0 ∨ i = 1 ∨ i = 2 ∨ i = 3 ∨ i = 4 ∨ i = 5 by have : i < 6 := hi; omega) with rfl | rfl | rfl | rfl | rfl | rfl <;> rfl) _

end Go.Proofs.Ytmdajbbpigbdcaa

namespace Go.Proofs.Ytmdajbbpigbdcaa
open Go.RowKit

set_option maxHeartbeats 400000 in
theorem keyOk_any (x : Int) (w : World) :
    Calls Try.prog 122 #[.int .i64 x] w fun e w' => e = .returned (.bool (inB x 0 999)) ∧ w' = w := by
  by_cases h1 : 0 ≤ x
  · by_cases h2 : x ≤ 999
    · have E : Hid (inB x 0 999 = true) := inB_true h1 h2
      go_enter Try.func122, Try.ntmps122
      go_wp2
      go_ret
      exact ⟨ret_bool E.out.symm, rfl⟩
    · have E : Hid (inB x 0 999 = false) := inB_false2 h2
      go_enter Try.func122, Try.ntmps122
      go_wp2
      go_ret
      exact ⟨ret_bool E.out.symm, rfl⟩
  · have E : Hid (inB x 0 999 = false) := inB_false1 h1
    go_enter Try.func122, Try.ntmps122
    go_wp2
    go_ret
    exact ⟨ret_bool E.out.symm, rfl⟩

set_option maxHeartbeats 400000 in
theorem valueOk_any (x : Int) (w : World) :
    Calls Try.prog 121 #[.int .i64 x] w fun e w' => e = .returned (.bool (inB x (-1000000000) 1000000000)) ∧ w' = w := by
  by_cases h1 : -1000000000 ≤ x
  · by_cases h2 : x ≤ 1000000000
    · have E : Hid (inB x (-1000000000) 1000000000 = true) := inB_true h1 h2
      go_enter Try.func121, Try.ntmps121
      go_wp2
      go_ret
      exact ⟨ret_bool E.out.symm, rfl⟩
    · have E : Hid (inB x (-1000000000) 1000000000 = false) := inB_false2 h2
      go_enter Try.func121, Try.ntmps121
      go_wp2
      go_ret
      exact ⟨ret_bool E.out.symm, rfl⟩
  · have E : Hid (inB x (-1000000000) 1000000000 = false) := inB_false1 h1
    go_enter Try.func121, Try.ntmps121
    go_wp2
    go_ret
    exact ⟨ret_bool E.out.symm, rfl⟩

set_option maxHeartbeats 400000 in
theorem implMsgOk_any (o k v : Int) (w : World) :
    Calls Try.prog 106 #[.agg #[.int .i64 o, .int .i64 k, .int .i64 v]] w fun e w' => e = .returned (.bool (msgOkB o k v)) ∧ Below w.heap.size w w' := by
  rcases (show (o == 1) = true ∨ ((o == 1) = false ∧ (o == 3) = true) ∨ ((o == 1) = false ∧ (o == 3) = false ∧ (o == 2) = true) ∨ ((o == 1) = false ∧ (o == 3) = false ∧ (o == 2) = false ∧ (o == 4) = true) ∨ ((o == 1) = false ∧ (o == 3) = false ∧ (o == 2) = false ∧ (o == 4) = false) from by
    cases (o == 1) <;> cases (o == 2) <;> cases (o == 3) <;> cases (o == 4) <;> simp) with h | ⟨h1, h⟩ | ⟨h1, h3, h⟩ | ⟨h1, h3, h2, h⟩ | ⟨h1, h3, h2, h⟩
  · have E : Hid (msgOkB o k v = (inB k 0 999 && inB v (-1000000000) 1000000000)) := msgOk_13 (Or.inl (by simpa using h))
    go_enter Try.func106, Try.ntmps106
    go_wp2_with (first | (go_at_call 122; refine (keyOk_any _ _).mono ?_; rintro e w' ⟨rfl, rfl⟩) | (go_at_call 121; refine (valueOk_any _ _).mono ?_; rintro e w' ⟨rfl, rfl⟩))
    all_goals (go_ret; refine ⟨ret_bool ?_, (Below.refl _ _).alloc (Nat.le_refl _) _⟩; rw [E.out]; simp [*])
  · have E : Hid (msgOkB o k v = (inB k 0 999 && inB v (-1000000000) 1000000000)) := msgOk_13 (Or.inr (by simpa using h))
    go_enter Try.func106, Try.ntmps106
    go_wp2_with (first | (go_at_call 122; refine (keyOk_any _ _).mono ?_; rintro e w' ⟨rfl, rfl⟩) | (go_at_call 121; refine (valueOk_any _ _).mono ?_; rintro e w' ⟨rfl, rfl⟩))
    all_goals (go_ret; refine ⟨ret_bool ?_, (Below.refl _ _).alloc (Nat.le_refl _) _⟩; rw [E.out]; simp [*])
  · have E : Hid (msgOkB o k v = (inB k 0 999 && (v == 0))) := msgOk_24 (Or.inl (by simpa using h))
    go_enter Try.func106, Try.ntmps106
    go_wp2_with (first | (go_at_call 122; refine (keyOk_any _ _).mono ?_; rintro e w' ⟨rfl, rfl⟩) | (go_at_call 121; refine (valueOk_any _ _).mono ?_; rintro e w' ⟨rfl, rfl⟩))
    all_goals (go_ret; refine ⟨ret_bool ?_, (Below.refl _ _).alloc (Nat.le_refl _) _⟩; rw [E.out]; simp [*])
  · have E : Hid (msgOkB o k v = (inB k 0 999 && (v == 0))) := msgOk_24 (Or.inr (by simpa using h))
    go_enter Try.func106, Try.ntmps106
    go_wp2_with (first | (go_at_call 122; refine (keyOk_any _ _).mono ?_; rintro e w' ⟨rfl, rfl⟩) | (go_at_call 121; refine (valueOk_any _ _).mono ?_; rintro e w' ⟨rfl, rfl⟩))
    all_goals (go_ret; refine ⟨ret_bool ?_, (Below.refl _ _).alloc (Nat.le_refl _) _⟩; rw [E.out]; simp [*])
  · have E : Hid (msgOkB o k v = false) := msgOk_no h1 h2 h3 h
    go_enter Try.func106, Try.ntmps106
    go_wp2
    go_ret
    exact ⟨ret_bool E.out.symm, (Below.refl _ _).alloc (Nat.le_refl _) _⟩

end Go.Proofs.Ytmdajbbpigbdcaa

namespace Go.Proofs.Ytmdajbbpigbdcaa
open Go.RowKit

/-- what is a command that is right: nothing at all, or all within its limits -/
def cmdOkB (c s o k v : Int) : Bool := (c == 0 && s == 0 && o == 0 && k == 0 && v == 0) || (inB c 1 9 && inB s 1 100000 && msgOkB o k v)

theorem clientOk_any (x : Int) (w : World) :
    Calls Try.prog 104 #[.int .i64 x] w fun e w' => e = .returned (.bool (inB x 1 9)) ∧ w' = w := by
  by_cases h1 : 1 ≤ x
  · by_cases h2 : x ≤ 9
    · have E : Hid (inB x 1 9 = true) := inB_true h1 h2
      go_enter Try.func104, Try.ntmps104
      go_wp2
      go_ret
      exact ⟨ret_bool E.out.symm, rfl⟩
    · have E : Hid (inB x 1 9 = false) := inB_false2 h2
      go_enter Try.func104, Try.ntmps104
      go_wp2
      go_ret
      exact ⟨ret_bool E.out.symm, rfl⟩
  · have E : Hid (inB x 1 9 = false) := inB_false1 h1
    go_enter Try.func104, Try.ntmps104
    go_wp2
    go_ret
    exact ⟨ret_bool E.out.symm, rfl⟩

theorem seqOk_any (x : Int) (w : World) :
    Calls Try.prog 105 #[.int .i64 x] w fun e w' => e = .returned (.bool (inB x 1 100000)) ∧ w' = w := by
  by_cases h1 : 1 ≤ x
  · by_cases h2 : x ≤ 100000
    · have E : Hid (inB x 1 100000 = true) := inB_true h1 h2
      go_enter Try.func105, Try.ntmps105
      go_wp2
      go_ret
      exact ⟨ret_bool E.out.symm, rfl⟩
    · have E : Hid (inB x 1 100000 = false) := inB_false2 h2
      go_enter Try.func105, Try.ntmps105
      go_wp2
      go_ret
      exact ⟨ret_bool E.out.symm, rfl⟩
  · have E : Hid (inB x 1 100000 = false) := inB_false1 h1
    go_enter Try.func105, Try.ntmps105
    go_wp2
    go_ret
    exact ⟨ret_bool E.out.symm, rfl⟩

abbrev cmdV (c s o k v : Int) : Value := .agg #[.int .i64 c, .int .i64 s, .int .i64 o, .int .i64 k, .int .i64 v]

set_option maxHeartbeats 1000000 in
theorem specCmdOk_any (c s o k v : Int) (w : World) :
    Calls Try.prog 37 #[cmdV c s o k v] w fun e w' => e = .returned (.bool (cmdOkB c s o k v)) ∧ Below w.heap.size w w' := by
  by_cases h0 : c = 0
  · subst h0
    go_enter Try.func37, Try.ntmps37
    go_wp2_with fail
    all_goals (go_ret; refine ⟨ret_bool ?_, (Below.refl _ _).alloc (Nat.le_refl _) _⟩; simp_all [cmdOkB, inB])
  · have h0' : (c == 0) = false := by simpa using h0
    go_enter Try.func37, Try.ntmps37
    go_wp2_with (first | (go_at_call 15; refine (l1In_any _ _ _ _).mono ?_; rintro e w' ⟨rfl, rfl⟩) | (go_at_call 61; refine (specMsgOk_any _ _ _ _).mono ?_; rintro e w' ⟨rfl, hb⟩))
    all_goals (go_ret; refine ⟨ret_bool ?_, ?_⟩)
    all_goals first | exact (Below.refl _ _).alloc (Nat.le_refl _) _ | exact Below.and ((Below.refl _ _).alloc (Nat.le_refl _) _) hb | (simp_all [cmdOkB, inB]; done) | (simp_all [cmdOkB, inB]; intros; omega)

set_option maxHeartbeats 1000000 in
theorem implCmdOk_any (c s o k v : Int) (w : World) :
    Calls Try.prog 74 #[cmdV c s o k v] w fun e w' => e = .returned (.bool (cmdOkB c s o k v)) ∧ Below w.heap.size w w' := by
  go_enter Try.func74, Try.ntmps74
  go_wp2_with (first | (go_at_call 104; refine (clientOk_any _ _).mono ?_; rintro e w' ⟨rfl, rfl⟩) | (go_at_call 105; refine (seqOk_any _ _).mono ?_; rintro e w' ⟨rfl, rfl⟩) | (go_at_call 106; refine (implMsgOk_any _ _ _ _).mono ?_; rintro e w' ⟨rfl, hb⟩))
  all_goals (go_ret; refine ⟨ret_bool ?_, ?_⟩)
  all_goals first | exact (Below.refl _ _).alloc (Nat.le_refl _) _ | exact Below.and ((Below.refl _ _).alloc (Nat.le_refl _) _) hb | (simp_all [cmdOkB, inB]; done) | (simp_all [cmdOkB, inB]; intros; omega)

theorem five_at {W : World} {R : Nat} {t : TypeId} {x0 x1 x2 x3 x4 : Value} (a b c d e : Value) (h : W.heap[R]? = some (.cells #[x0, x1, x2, x3, x4] t (0, 0))) : (((((W.setCell ⟨R, 0, none⟩ a).setCell ⟨R, 1, none⟩ b).setCell ⟨R, 2, none⟩ c).setCell ⟨R, 3, none⟩ d).setCell ⟨R, 4, none⟩ e).heap[R]? = some (.cells #[a, b, c, d, e] t (0, 0)) := by
  have h0 := heap_setCell_same W R 0 _ _ a h
  have h1 := heap_setCell_same _ R 1 _ _ b h0
  have h2 := heap_setCell_same _ R 2 _ _ c h1
  have h3 := heap_setCell_same _ R 3 _ _ d h2
  have h4 := heap_setCell_same _ R 4 _ _ e h3
  simpa using h4
theorem late_at {W : World} {R : Nat} {t : TypeId} {x0 x1 x2 x3 x4 : Value} (c d e : Value) (h : W.heap[R]? = some (.cells #[x0, x1, x2, x3, x4] t (0, 0))) : (((W.setCell ⟨R, 2, none⟩ c).setCell ⟨R, 3, none⟩ d).setCell ⟨R, 4, none⟩ e).heap[R]? = some (.cells #[x0, x1, c, d, e] t (0, 0)) := by
  have h2 := heap_setCell_same _ R 2 _ _ c h
  have h3 := heap_setCell_same _ R 3 _ _ d h2
  have h4 := heap_setCell_same _ R 4 _ _ e h3
  simpa using h4
theorem five_chg (W : World) (R : Nat) (a b c d e : Value) : Chg (fun g => g = R) W (((((W.setCell ⟨R, 0, none⟩ a).setCell ⟨R, 1, none⟩ b).setCell ⟨R, 2, none⟩ c).setCell ⟨R, 3, none⟩ d).setCell ⟨R, 4, none⟩ e) :=
  (((((Chg.refl (fun g => g = R) W).setAt R 0 rfl a).setAt R 1 rfl b).setAt R 2 rfl c).setAt R 3 rfl d).setAt R 4 rfl e
theorem late_chg (W : World) (R : Nat) (c d e : Value) : Chg (fun g => g = R) W (((W.setCell ⟨R, 2, none⟩ c).setCell ⟨R, 3, none⟩ d).setCell ⟨R, 4, none⟩ e) :=
  (((Chg.refl (fun g => g = R) W).setAt R 2 rfl c).setAt R 3 rfl d).setAt R 4 rfl e

set_option maxHeartbeats 1000000 in
theorem toCmd_any (c s o k v : Int) (w : World) :
    Calls Try.prog 93 #[cmdV c s o k v] w fun e w' => e = .returned (cmdV c s o k v) ∧ Below w.heap.size w w' := by
  have b0 : Below w.heap.size w (((w.alloc (.cells #[.int .i64 c, .int .i64 s, .int .i64 o, .int .i64 k, .int .i64 v] 114)).alloc (.cells #[.int .i64 0, .int .i64 0, .int .i64 0, .int .i64 0, .int .i64 0] 80)).alloc (.cells #[.int .i64 c, .int .i64 s, .int .i64 0, .int .i64 0, .int .i64 0] 80)) := (((Below.refl _ _).alloc (Nat.le_refl _) _).alloc (by simp) _).alloc (by simp; omega) _
  have n2 := heap_alloc_new ((w.alloc (.cells #[.int .i64 c, .int .i64 s, .int .i64 o, .int .i64 k, .int .i64 v] 114)).alloc (.cells #[.int .i64 0, .int .i64 0, .int .i64 0, .int .i64 0, .int .i64 0] 80)) (.cells #[.int .i64 c, .int .i64 s, .int .i64 0, .int .i64 0, .int .i64 0] 80)
  have n1 := row_chg (F := fun _ => False) (heap_alloc_new (w.alloc (.cells #[.int .i64 c, .int .i64 s, .int .i64 o, .int .i64 k, .int .i64 v] 114)) (.cells #[.int .i64 0, .int .i64 0, .int .i64 0, .int .i64 0, .int .i64 0] 80)) ((Chg.refl _ _).alloc (.cells #[.int .i64 c, .int .i64 s, .int .i64 0, .int .i64 0, .int .i64 0] 80)) id
  simp only [World.size_alloc] at n1 n2
  have H : Hid _ := And.intro b0 (And.intro n1 n2)
  clear b0 n1 n2
  go_enter Try.func93, Try.ntmps93
  go_wp2_with fail
  generalize (((w.alloc (.cells #[.int .i64 c, .int .i64 s, .int .i64 o, .int .i64 k, .int .i64 v] 114)).alloc (.cells #[.int .i64 0, .int .i64 0, .int .i64 0, .int .i64 0, .int .i64 0] 80)).alloc (.cells #[.int .i64 c, .int .i64 s, .int .i64 0, .int .i64 0, .int .i64 0] 80)) = W at *
  refine (toMsg_any _ _ _ _).mono ?_
  rintro e w1 ⟨rfl, hb⟩
  obtain ⟨b0, n1, n2⟩ := H.out
  have m1 := (hb.block _ (Array.getElem?_eq_some_iff.1 n1).1).trans n1
  have m2 := (hb.block _ (Array.getElem?_eq_some_iff.1 n2).1).trans n2
  have B1 := Below.and b0 hb
  have m3 := late_at (.int .i64 o) (.int .i64 k) (.int .i64 v) m2
  have g3 := late_chg w1 (w.heap.size + 1 + 1) (.int .i64 o) (.int .i64 k) (.int .i64 v)
  have m4 := row_chg m1 g3 (by omega)
  have m5 := five_at (.int .i64 c) (.int .i64 s) (.int .i64 o) (.int .i64 k) (.int .i64 v) m4
  have g5 := five_chg (((w1.setCell ⟨w.heap.size + 1 + 1, 2, none⟩ (.int .i64 o)).setCell ⟨w.heap.size + 1 + 1, 3, none⟩ (.int .i64 k)).setCell ⟨w.heap.size + 1 + 1, 4, none⟩ (.int .i64 v)) (w.heap.size + 1) (.int .i64 c) (.int .i64 s) (.int .i64 o) (.int .i64 k) (.int .i64 v)
  have B2 := B1.trans (g3.below (fun g _ hg => by omega) B1.size)
  have B3 : Hid _ := B2.trans (g5.below (fun g _ hg => by omega) B2.size)
  have f1 : ∀ j, w1.frozen? ⟨w.heap.size + 1 + 1, j, none⟩ = false := fun j => frozen_of_cells m2
  have f2 : ∀ j, (((w1.setCell ⟨w.heap.size + 1 + 1, 2, none⟩ (.int .i64 o)).setCell ⟨w.heap.size + 1 + 1, 3, none⟩ (.int .i64 k)).setCell ⟨w.heap.size + 1 + 1, 4, none⟩ (.int .i64 v)).frozen? ⟨w.heap.size + 1, j, none⟩ = false := fun j => frozen_of_cells m4
  have c2 : ∀ j, w1.cell? ⟨w.heap.size + 1 + 1, j, none⟩ = (#[.int .i64 c, .int .i64 s, .int .i64 0, .int .i64 0, .int .i64 0] : Array Value)[j]? := fun j => cell_of_cells m2
  have c3 : ∀ j, (((w1.setCell ⟨w.heap.size + 1 + 1, 2, none⟩ (.int .i64 o)).setCell ⟨w.heap.size + 1 + 1, 3, none⟩ (.int .i64 k)).setCell ⟨w.heap.size + 1 + 1, 4, none⟩ (.int .i64 v)).cell? ⟨w.heap.size + 1 + 1, j, none⟩ = (#[.int .i64 c, .int .i64 s, .int .i64 o, .int .i64 k, .int .i64 v] : Array Value)[j]? := fun j => cell_of_cells m3
  have c4 : ∀ j, (((w1.setCell ⟨w.heap.size + 1 + 1, 2, none⟩ (.int .i64 o)).setCell ⟨w.heap.size + 1 + 1, 3, none⟩ (.int .i64 k)).setCell ⟨w.heap.size + 1 + 1, 4, none⟩ (.int .i64 v)).cell? ⟨w.heap.size + 1, j, none⟩ = (#[.int .i64 0, .int .i64 0, .int .i64 0, .int .i64 0, .int .i64 0] : Array Value)[j]? := fun j => cell_of_cells m4
  have c5 : Hid _ := m5
  clear m1 m2 m3 m4 m5 g3 g5 B1 B2 n1 n2 b0 hb H
  go_wp2_with fail
  simp [bodyPost, results, Try.results93, go_sem, cell_of_cells c5.out]
  exact B3.out

end Go.Proofs.Ytmdajbbpigbdcaa
