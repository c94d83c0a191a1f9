/-
  Lists of messages as rows of cells; the laws' own functions on them.
-/
import Derived.Test.YtmoaccohnmkleaaMarks
import Derived.Test.YtmoaccohnmkleaaMathMap
namespace Go.Proofs.Ytmoaccohnmkleaa
open Go.RowKit

abbrev ML := List (Int × Int × Int)
def mO (l : ML) (i : Nat) : Int := (l.getD i (0, 0, 0)).1
def mK (l : ML) (i : Nat) : Int := (l.getD i (0, 0, 0)).2.1
def mV (l : ML) (i : Nat) : Int := (l.getD i (0, 0, 0)).2.2
theorem ml_at (l : ML) (i : Nat) (h : i < l.length) : l[i] = (mO l i, mK l i, mV l i) := by simp [mO, mK, mV, List.getD, h]
theorem ml_ext {l1 l2 : ML} (hl : l1.length = l2.length) (h : ∀ i, i < l1.length → mO l1 i = mO l2 i ∧ mK l1 i = mK l2 i ∧ mV l1 i = mV l2 i) : l1 = l2 := by
  apply List.ext_getElem hl
  intro i h1 h2
  rw [ml_at l1 i h1, ml_at l2 i h2, (h i h1).1, (h i h1).2.1, (h i h1).2.2]
theorem take_succM (l : ML) (k : Nat) (hk : k < l.length) : l.take (k + 1) = l.take k ++ [(mO l k, mK l k, mV l k)] := by
  rw [List.take_succ_eq_append_getElem hk, ml_at l k hk]

/-- the cells of a list of messages -/
def flatM (l : ML) : List Value := l.flatMap fun m => [.int .i64 m.1, .int .i64 m.2.1, .int .i64 m.2.2]
theorem flatM_cons (m : Int × Int × Int) (l : ML) : flatM (m :: l) = .int .i64 m.1 :: .int .i64 m.2.1 :: .int .i64 m.2.2 :: flatM l := rfl
theorem flatM_append (l m : ML) : flatM (l ++ m) = flatM l ++ flatM m := by simp [flatM, List.flatMap_append]
theorem flatM_length (l : ML) : (flatM l).length = l.length * 3 := by
  induction l with
  | nil => rfl
  | cons a l ih => rw [flatM_cons]; simp only [List.length_cons]; omega
theorem flatM_at (l : ML) : ∀ i, i < l.length → (flatM l)[i * 3]? = some (.int .i64 (mO l i)) ∧ (flatM l)[i * 3 + 1]? = some (.int .i64 (mK l i)) ∧ (flatM l)[i * 3 + 2]? = some (.int .i64 (mV l i)) := by
  induction l with
  | nil => intro i h; simp at h
  | cons a l ih =>
    intro i h
    cases i with
    | zero => simp [flatM_cons, mO, mK, mV]
    | succ i =>
      have := ih i (by simpa using h)
      have e1 : (i + 1) * 3 = i * 3 + 1 + 1 + 1 := by omega
      have e2 : (i + 1) * 3 + 1 = (i * 3 + 1) + 1 + 1 + 1 := by omega
      have e3 : (i + 1) * 3 + 2 = (i * 3 + 2) + 1 + 1 + 1 := by omega
      rw [e3, e2, e1, flatM_cons]
      simpa [mO, mK, mV] using this
theorem flatM_set (l : ML) (a b c : Int) : ∀ i, i < l.length → (((flatM l).set (i * 3) (.int .i64 a)).set (i * 3 + 1) (.int .i64 b)).set (i * 3 + 2) (.int .i64 c) = flatM (l.set i (a, b, c)) := by
  induction l with
  | nil => intro i h; simp at h
  | cons p l ih =>
    intro i h
    cases i with
    | zero => simp [flatM_cons]
    | succ i =>
      have := ih i (by simpa using h)
      rw [flatM_cons, List.set_cons_succ, flatM_cons, show (i + 1) * 3 + 2 = (i * 3 + 2) + 1 + 1 + 1 by omega, show (i + 1) * 3 = i * 3 + 1 + 1 + 1 by omega]
      simp only [List.set_cons_succ]
      rw [this]

theorem Row.msgs {w : World} {v : Value} {l : ML} (h : Row w v l.length (flatM l)) :
    ∃ (a : Option Addr) (b off cap : Nat), v = .slice a l.length cap ∧ l.length ≤ cap ∧ cap ≤ maxLen ∧ (0 < l.length → a = some ⟨b, off, none⟩) ∧
      (∀ i, i < l.length → w.cell? ⟨b, off + i * 3, none⟩ = some (.int .i64 (mO l i))) ∧ (∀ i, i < l.length → w.cell? ⟨b, off + i * 3 + 1, none⟩ = some (.int .i64 (mK l i))) ∧ (∀ i, i < l.length → w.cell? ⟨b, off + i * 3 + 2, none⟩ = some (.int .i64 (mV l i))) := by
  obtain ⟨a, b, off, cap, h1, h2, h3, h4, h5, _⟩ := h
  exact ⟨a, b, off, cap, h1, h2, h3, h4, fun i hi => h5 _ _ (flatM_at l i hi).1, fun i hi => h5 _ _ (flatM_at l i hi).2.1, fun i hi => h5 _ _ (flatM_at l i hi).2.2⟩

set_option maxHeartbeats 400000 in
theorem szMsgS_any (a : Option Addr) (n cap : Nat) (left : Int) (hn : n ≤ maxLen) (hl : 0 ≤ left) (hl2 : left ≤ 1048576) (w : World) :
    Calls Try.prog 23 #[.slice a n cap, .int .i64 left] w fun e w' => e = .returned (.int .i64 (if (n : Int) ≤ left then left - n else -1)) ∧ w' = w := by
  unfold maxLen at hn
  by_cases h : (n : Int) ≤ left
  · go_enter Try.func23, Try.ntmps23
    go_wp2
    go_ret
    exact ⟨rfl, rfl⟩
  · go_enter Try.func23, Try.ntmps23
    go_wp2
    go_ret
    exact ⟨rfl, rfl⟩

def eqMsgB (a b c a' b' c' : Int) : Bool := decide (a = a' ∧ b = b' ∧ c = c')
theorem eqMsgB_true {a b c d e f : Int} (h : eqMsgB a b c d e f = true) : a = d ∧ b = e ∧ c = f := by simpa [eqMsgB] using h
theorem ne_of_eqMsgB {l1 l2 : ML} {k : Nat} (h : eqMsgB (mO l1 k) (mK l1 k) (mV l1 k) (mO l2 k) (mK l2 k) (mV l2 k) = false) : l1 ≠ l2 := by
  intro e; subst e; simp [eqMsgB] at h

set_option maxHeartbeats 400000 in
theorem eqMsg_any (a b c d e f : Int) (w : World) :
    Calls Try.prog 45 #[.agg #[.int .i64 a, .int .i64 b, .int .i64 c], .agg #[.int .i64 d, .int .i64 e, .int .i64 f]] w fun r w' => r = .returned (.bool (eqMsgB a b c d e f)) ∧ Below w.heap.size w w' := by
  go_enter Try.func45, Try.ntmps45
  go_wp2
  all_goals (go_ret; refine ⟨ret_bool ?_, ((Below.refl _ _).alloc (Nat.le_refl _) _).alloc (by simp) _⟩; simp_all [eqMsgB])

set_option maxHeartbeats 1000000 in
theorem eqMsgS_any (v1 v2 : Value) (l1 l2 : ML) (w : World) (h1 : Row w v1 l1.length (flatM l1)) (h2 : Row w v2 l2.length (flatM l2)) :
    Calls Try.prog 37 #[v1, v2] w fun e w' => e = .returned (.bool (decide (l1 = l2))) ∧ Below w.heap.size w w' := by
  obtain ⟨a, b, off, cap, rfl, hcap, hmax, ha, ho, hk, hv⟩ := h1.msgs
  obtain ⟨a2, b2, off2, cap2, rfl, hcap2, hmax2, ha2, ho2, hk2, hv2⟩ := h2.msgs
  unfold maxLen at hmax hmax2
  by_cases hl : l1.length = l2.length
  · have hne : ((l1.length : Int) != (l2.length : Int)) = false := by rw [bne_eq_false_iff_eq]; omega
    have HL : Hid (l1.length = l2.length) := hl
    have hl2 : l1.length ≤ l2.length := by omega
    clear hl
    go_enter Try.func37, Try.ntmps37
    go_wp2
    go_loopw [5] (fun i wr => ∃ k : Nat, k ≤ l1.length ∧ i = .int .i64 k ∧ (∀ i, i < k → mO l1 i = mO l2 i ∧ mK l1 i = mK l2 i ∧ mV l1 i = mV l2 i) ∧ Below w.heap.size w wr)
      (fun i _ => l1.length - (intOf i).toNat)
    case atStart => exact ⟨0, Nat.zero_le _, rfl, fun i hi => absurd hi (Nat.not_lt_zero _), Below.refl _ _⟩
    case round =>
      obtain ⟨k, hkl, rfl, hall, hb⟩ := hrel
      have ALL : Hid (∀ i, i < k → mO l1 i = mO l2 i ∧ mK l1 i = mK l2 i ∧ mV l1 i = mV l2 i) := hall
      clear hall
      by_cases hlt : k < l1.length
      · have hal := ha (by omega)
        subst hal
        have hal2 := ha2 (by omega)
        subst hal2
        have hlt2 : k < l2.length := by omega
        have d0 := (hb.cell (by exact cell_lt (ho k hlt))).trans (ho k hlt)
        have d1 := (hb.cell (by exact cell_lt (hk k hlt))).trans (hk k hlt)
        have d2 := (hb.cell (by exact cell_lt (hv k hlt))).trans (hv k hlt)
        have d3 := (hb.cell (by exact cell_lt (ho2 k hlt2))).trans (ho2 k hlt2)
        have d4 := (hb.cell (by exact cell_lt (hk2 k hlt2))).trans (hk2 k hlt2)
        have d5 := (hb.cell (by exact cell_lt (hv2 k hlt2))).trans (hv2 k hlt2)
        clear ho hk hv ha ho2 hk2 hv2 ha2
        go_wp2_with fail
        cases hq : eqMsgB (mO l1 k) (mK l1 k) (mV l1 k) (mO l2 k) (mK l2 k) (mV l2 k)
        · have NE : Hid (decide (l1 = l2) = false) := decide_eq_false (ne_of_eqMsgB hq)
          go_region_with (go_at_call 45; refine (eqMsg_any _ _ _ _ _ _ _).mono ?_; rintro e w1 ⟨rfl, hb1⟩)
          all_goals
            go_wp2
            go_ret
            exact ⟨ret_bool NE.out.symm, hb.drew.trans (hb1.mono hb.size)⟩
        · have EQ : Hid (mO l1 k = mO l2 k ∧ mK l1 k = mK l2 k ∧ mV l1 k = mV l2 k) := eqMsgB_true hq
          go_region_with (go_at_call 45; refine (eqMsg_any _ _ _ _ _ _ _).mono ?_; rintro e w1 ⟨rfl, hb1⟩)
          all_goals
            go_wp2
            go_roundw
            case rel => exact ⟨k + 1, by omega, by go_num, fun i hi => if h : i < k then ALL.out i h else by rw [show i = k by omega]; exact EQ.out, hb.drew.trans (hb1.mono hb.size)⟩
            case measure => simp [intOf]; omega
      · go_wp2
        go_ret
        refine ⟨ret_bool ?_, hb⟩
        symm
        rw [decide_eq_true_iff]
        exact ml_ext HL.out (fun i hi => ALL.out i (by omega))
  · have hne : ((l1.length : Int) != (l2.length : Int)) = true := by rw [bne_iff_ne]; omega
    go_enter Try.func37, Try.ntmps37
    go_wp2
    go_ret
    refine ⟨ret_bool ?_, Below.refl _ _⟩
    symm
    rw [decide_eq_false_iff_not]
    intro h; exact hl (by rw [h])

theorem Try.info78 : (Try.prog.info? 78).map (fun i => (i.zero, i.size, i.bytes)) = some (some (.agg #[.int .i64 0, .int .i64 0, .int .i64 0]), 3, 24) := by kernel_rfl

def filledM (l : ML) (k : Nat) : ML := l.take k ++ List.replicate (l.length - k) (0, 0, 0)
theorem filledM_length (l : ML) (k : Nat) (hk : k ≤ l.length) : (filledM l k).length = l.length := by simp [filledM]; omega
theorem filledM_full (l : ML) : filledM l l.length = l := by simp [filledM]
theorem flatM_zero (n : Nat) : flatM (List.replicate n (0, 0, 0)) = List.replicate (n * 3) (.int .i64 0) := by
  induction n with
  | zero => rfl
  | succ n ih => rw [List.replicate_succ, flatM_cons, ih, show (n + 1) * 3 = n * 3 + 1 + 1 + 1 by omega]; simp [List.replicate_succ]
theorem filledM_step (l : ML) (k : Nat) (hk : k < l.length) : (filledM l k).set k (mO l k, mK l k, mV l k) = filledM l (k + 1) := by
  obtain ⟨m, hm⟩ : ∃ m, l.length - k = m + 1 := ⟨l.length - k - 1, by omega⟩
  rw [filledM, filledM, take_succM l k hk, hm, show l.length - (k + 1) = m by omega, List.replicate_succ, List.set_append_right _ _ (by simp; omega)]
  simp [show min k l.length = k by omega]

set_option maxHeartbeats 1000000 in
theorem toMsgS_any (v : Value) (l : ML) (w : World) (hr : Row w v l.length (flatM l)) (hn : l.length ≤ 1048576) :
    Calls Try.prog 28 #[v] w fun e w' => ∃ v', e = .returned v' ∧ w'.ownsRow w.heap.size 78 3 v' l.length (flatM l) ∧ Below w.heap.size w w' := by
  obtain ⟨a, b, off, cap, rfl, hcap, hmax, ha, ho, hk, hv⟩ := hr.msgs
  obtain ⟨i0, hi, hz0, hz1, hz2⟩ := info_parts Try.info78
  unfold maxLen at hmax
  go_enter Try.func28, Try.ntmps28
  go_wp2_with (at_make; refine wpList_make_full _ rfl _ _ 35 rfl w.heap.size 78 i0 _ 3 Try.underlying35 hi hz0 hz1 .i64 .i64 _ _ l.length rfl rfl rfl rfl ?c1 ?c2 ?c3 ?_)
  case c1 => rw [hz2]; omega
  case c2 => unfold maxLen; omega
  case c3 => exact Nat.le_refl _
  intro w0 hown0 hgrow0
  have hb0 : Below w.heap.size w w0 := (Below.refl _ _).grown hgrow0 (Nat.le_refl _) (fun k hk => by cases hk)
  clear hgrow0
  go_wp2
  go_loopw [4] (fun i wr => ∃ k : Nat, k ≤ l.length ∧ i = .int .i64 k ∧ wr.ownsRow w.heap.size 78 3 (.slice (some ⟨w.heap.size, 0, none⟩) l.length l.length) l.length (flatM (filledM l k)) ∧ Below w.heap.size w wr)
    (fun i _ => l.length - (intOf i).toNat)
  case atStart => exact ⟨0, Nat.zero_le _, rfl, by rw [madeCells_all _ (.int .i64 0) (by decide) (fun i hi => by match i, hi with | 0, _ => rfl | 1, _ => rfl | 2, _ => rfl)] at hown0; rw [show filledM l 0 = List.replicate l.length (0, 0, 0) by simp [filledM], flatM_zero]; exact hown0, hb0⟩
  case round =>
    obtain ⟨k, hkl, rfl, hown, hb⟩ := hrel
    clear hown0 hb0
    by_cases hlt : k < l.length
    · have hal := ha (by omega)
      subst hal
      have d0 := (hb.cell (by exact cell_lt (ho k hlt))).trans (ho k hlt)
      have d1 := (hb.cell (by exact cell_lt (hk k hlt))).trans (hk k hlt)
      have d2 := (hb.cell (by exact cell_lt (hv k hlt))).trans (hv k hlt)
      clear ho hk hv ha
      go_wp2_with fail
      refine (toMsg_any _ _ _ _).mono ?_
      rintro e w1 ⟨rfl, hb1⟩
      have own1 := owns_below hown hb1
      have hfl : (filledM l k).length = l.length := filledM_length l k hkl
      have hat := flatM_at (filledM l k) k (by omega)
      have e0 := (own1.cellAt (k * 3) (by omega)).trans hat.1
      have e1 := (own1.cellAt (k * 3 + 1) (by omega)).trans hat.2.1
      have e2 := (own1.cellAt (k * 3 + 2) (by omega)).trans hat.2.2
      have f0 := own1.frozenAt (k * 3)
      have f1 := own1.frozenAt (k * 3 + 1)
      have f2 := own1.frozenAt (k * 3 + 2)
      have st := (own1.stored (k * 3) (.int .i64 (mO l k))).1
      have st2 := (st.stored (k * 3 + 1) (.int .i64 (mK l k))).1
      have st3 := (st2.stored (k * 3 + 2) (.int .i64 (mV l k))).1
      rw [flatM_set _ _ _ _ k (by omega), filledM_step l k hlt] at st3
      have hb2 : Below w.heap.size w w1 := hb.trans (hb1.mono hb.size)
      generalize mO (filledM l k) k = x0 at *
      generalize mK (filledM l k) k = x1 at *
      generalize mV (filledM l k) k = x2 at *
      have ST : Hid _ := st3
      clear st st2 st3 hown hb1 d0 d1 d2 own1 hat hfl hr
      go_wp2
      go_roundw
      case rel => exact ⟨k + 1, by omega, by go_num, ST.out, ((hb2.setCell (Nat.le_refl _) _).setCell (Nat.le_refl _) _).setCell (Nat.le_refl _) _⟩
      case measure => simp [intOf]; omega
    · go_wp2
      go_ret
      have hkk : k = l.length := by omega
      subst hkk
      rw [filledM_full] at hown
      exact ⟨_, rfl, hown, hb⟩

end Go.Proofs.Ytmoaccohnmkleaa
