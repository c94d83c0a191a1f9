/-
  Lists of truths: the laws' functions on them.
-/
import Derived.Test.YtmpngehhojlmmaaDskDo
import Derived.Deep.QuietTactic
import Derived.BigQuiet
namespace Go.Proofs.Ytmpngehhojlmmaa
open Go.RowKit

/-- the cells of a list of truths -/
def flatL (l : List Bool) : List Value := l.map Value.bool
def bOf (l : List Bool) (i : Nat) : Bool := l.getD i false
theorem flatL_length (l : List Bool) : (flatL l).length = l.length := by simp [flatL]
theorem flatL_at (l : List Bool) (i : Nat) (h : i < l.length) : (flatL l)[i]? = some (.bool (bOf l i)) := by simp [flatL, bOf, List.getD, h]
theorem flatL_append (l m : List Bool) : flatL (l ++ m) = flatL l ++ flatL m := by simp [flatL]
theorem flatL_set (l : List Bool) (s : Bool) (i : Nat) : (flatL l).set i (.bool s) = flatL (l.set i s) := by simp [flatL, List.map_set]
theorem takeL_succ (l : List Bool) (k : Nat) (hk : k < l.length) : l.take (k + 1) = l.take k ++ [bOf l k] := by
  rw [List.take_succ_eq_append_getElem hk]; simp [bOf, List.getD, hk]
theorem Row.bools {w : World} {v : Value} {l : List Bool} (h : Row w v l.length (flatL l)) :
    ∃ (a : Option Addr) (b off cap : Nat), v = .slice a l.length cap ∧ l.length ≤ cap ∧ cap ≤ maxLen ∧ (0 < l.length → a = some ⟨b, off, none⟩) ∧
      (∀ i, i < l.length → w.cell? ⟨b, off + i, none⟩ = some (.bool (bOf l i))) := by
  obtain ⟨a, b, off, cap, h1, h2, h3, h4, h5, _⟩ := h
  exact ⟨a, b, off, cap, h1, h2, h3, h4, fun i hi => h5 _ _ (flatL_at l i hi)⟩
theorem extL {l1 l2 : List Bool} (hl : l1.length = l2.length) (h : ∀ i, i < l1.length → bOf l1 i = bOf l2 i) : l1 = l2 := by
  apply List.ext_getElem hl
  intro i h1 h2
  have := h i h1
  simpa [bOf, List.getD, h1, h2] using this

theorem Try.info4 : (Try.prog.info? 4).map (fun i => (i.zero, i.size, i.bytes)) = some (some (.bool false), 1, 1) := by kernel_rfl

def filledL (l : List Bool) (k : Nat) : List Value := flatL (l.take k) ++ List.replicate (l.length - k) (.bool false)
theorem filledL_full (l : List Bool) : filledL l l.length = flatL l := by simp [filledL]
theorem filledL_length (l : List Bool) (k : Nat) (hk : k ≤ l.length) : (filledL l k).length = l.length := by simp [filledL, flatL_length]; omega
theorem filledL_zero (l : List Bool) (k : Nat) (hk : k < l.length) : (filledL l k)[k]? = some (.bool false) := by
  have hl : (flatL (l.take k)).length = k := by rw [flatL_length]; simp; omega
  rw [filledL, List.getElem?_append_right (by omega), List.getElem?_replicate_of_lt (by omega)]
theorem filledL_step (l : List Bool) (k : Nat) (hk : k < l.length) : (filledL l k).set k (.bool (bOf l k)) = filledL l (k + 1) := by
  have hl : (flatL (l.take k)).length = k := by rw [flatL_length]; simp; omega
  obtain ⟨m, hm⟩ : ∃ m, l.length - k = m + 1 := ⟨l.length - k - 1, by omega⟩
  have hm2 : l.length - (k + 1) = m := by omega
  rw [filledL, filledL, takeL_succ l k hk, flatL_append, hm, hm2, List.replicate_succ]
  rw [List.set_append_right _ _ (by omega), hl, Nat.sub_self, List.set_cons_zero]
  simp [flatL]

set_option maxHeartbeats 1000000 in
theorem toBoolS_any (v : Value) (l : List Bool) (w : World) (hr : Row w v l.length (flatL l)) (hn : l.length ≤ 1048576) :
    Calls Try.prog 22 #[v] w fun e w' => ∃ v', e = .returned v' ∧ w'.ownsRow w.heap.size 4 1 v' l.length (flatL l) ∧ Below w.heap.size w w' := by
  obtain ⟨a, b, off, cap, rfl, hcap, hmax, ha, hk⟩ := hr.bools
  obtain ⟨i0, hi, hz0, hz1, hz2⟩ := info_parts Try.info4
  unfold maxLen at hmax
  go_enter Try.func22, Try.ntmps22
  go_wp2_with (at_make; refine wpList_make_full _ rfl _ _ 36 rfl w.heap.size 4 i0 _ 1 Try.underlying36 hi hz0 hz1 .i64 .i64 _ _ l.length rfl rfl rfl rfl ?c1 ?c2 ?c3 ?_)
  case c1 => rw [hz2]; omega
  case c2 => unfold maxLen; omega
  case c3 => exact Nat.le_refl _
  intro w0 hown0 hgrow0
  have hb0 : Below w.heap.size w w0 := (Below.refl _ _).grown hgrow0 (Nat.le_refl _) (fun k hk => by cases hk)
  clear hgrow0
  go_wp2
  go_loopw [4] (fun i wr => ∃ k : Nat, k ≤ l.length ∧ i = .int .i64 k ∧ wr.ownsRow w.heap.size 4 1 (.slice (some ⟨w.heap.size, 0, none⟩) l.length l.length) l.length (filledL l k) ∧ Below w.heap.size w wr)
    (fun i _ => l.length - (intOf i).toNat)
  case atStart => exact ⟨0, Nat.zero_le _, rfl, by rw [madeCells_all _ (.bool false) (by decide) (fun i hi => by match i, hi with | 0, _ => rfl)] at hown0; simpa [filledL, flatL] using hown0, hb0⟩
  case round =>
    obtain ⟨k, hkl, rfl, hown, hb⟩ := hrel
    clear hown0 hb0
    by_cases hlt : k < l.length
    · have hal := ha (by omega)
      subst hal
      have c0 := hk k hlt
      have d0 : wr.cell? ⟨b, off + k, none⟩ = some (.bool (bOf l k)) := (hb.cell (by exact cell_lt c0)).trans c0
      have e0 := (hown.cellAt k (by omega)).trans (filledL_zero l k hlt)
      have f0 := hown.frozenAt k
      have st := (hown.stored k (.bool (bOf l k))).1
      rw [filledL_step l k hlt] at st
      have ST : Hid ((wr.setCell ⟨w.heap.size, k, none⟩ (.bool (bOf l k))).ownsRow w.heap.size 4 1 (.slice (some ⟨w.heap.size, 0, none⟩) l.length l.length) l.length (filledL l (k + 1))) := st
      have HB : Hid _ := hb
      clear hk c0 ha st hown hb
      go_wp2
      go_roundw
      case rel => exact ⟨k + 1, by omega, by go_num, ST.out, HB.out.setCell (Nat.le_refl _) _⟩
      case measure => simp [intOf]; omega
    · go_wp2
      go_ret
      have hkk : k = l.length := by omega
      subst hkk
      rw [filledL_full] at hown
      exact ⟨_, rfl, hown, hb⟩

set_option maxHeartbeats 1000000 in
theorem eqBoolS_any (v1 v2 : Value) (l1 l2 : List Bool) (w : World) (h1 : Row w v1 l1.length (flatL l1)) (h2 : Row w v2 l2.length (flatL l2)) :
    Calls Try.prog 23 #[v1, v2] w fun e w' => e = .returned (.bool (decide (l1 = l2))) ∧ Below w.heap.size w w' := by
  obtain ⟨a, b, off, cap, rfl, hcap, hmax, ha, hk⟩ := h1.bools
  obtain ⟨a2, b2, off2, cap2, rfl, hcap2, hmax2, ha2, hk2⟩ := h2.bools
  unfold maxLen at hmax hmax2
  by_cases hl : l1.length = l2.length
  · have hne : ((l1.length : Int) != (l2.length : Int)) = false := by rw [bne_eq_false_iff_eq]; omega
    have HL : Hid (l1.length = l2.length) := hl
    have hl2 : l1.length ≤ l2.length := by omega
    clear hl
    go_enter Try.func23, Try.ntmps23
    go_wp2
    go_loopw [5] (fun i wr => ∃ k : Nat, k ≤ l1.length ∧ i = .int .i64 k ∧ Hid (∀ i, i < k → bOf l1 i = bOf l2 i) ∧ Below w.heap.size w wr)
      (fun i _ => l1.length - (intOf i).toNat)
    case atStart => exact ⟨0, Nat.zero_le _, rfl, fun i hi => absurd hi (Nat.not_lt_zero _), Below.refl _ _⟩
    case round =>
      obtain ⟨k, hkl, rfl, ALL, hb⟩ := hrel
      by_cases hlt : k < l1.length
      · have hal := ha (by omega)
        subst hal
        have hal2 := ha2 (by omega)
        subst hal2
        have hlt2 : k < l2.length := by omega
        have d0 := (hb.cell (by exact cell_lt (hk k hlt))).trans (hk k hlt)
        have d1 := (hb.cell (by exact cell_lt (hk2 k hlt2))).trans (hk2 k hlt2)
        clear hk ha hk2 ha2
        by_cases hq : bOf l1 k = bOf l2 k
        · have hq' : (bOf l1 k == bOf l2 k) = true := by rw [beq_iff_eq]; exact hq
          have EQ : Hid (bOf l1 k = bOf l2 k) := hq
          clear hq
          go_wp2_with fail
          go_quiet (fail)
          go_wp2
          go_roundw
          case rel => exact ⟨k + 1, by omega, by go_num, fun i hi => if h : i < k then ALL.out i h else by rw [show i = k by omega]; exact EQ.out, below_drewN hb _⟩
          case measure => simp [intOf]; omega
        · have hq' : (bOf l1 k == bOf l2 k) = false := by rw [beq_eq_false_iff_ne]; exact hq
          have NE : Hid (decide (l1 = l2) = false) := decide_eq_false (fun e => hq (by rw [e]))
          clear hq
          go_wp2_with fail
          go_quiet (fail)
          go_wp2
          go_ret
          exact ⟨ret_bool NE.out.symm, below_drewN hb _⟩
      · go_wp2
        go_ret
        refine ⟨ret_bool ?_, hb⟩
        symm
        rw [decide_eq_true_iff]
        exact extL HL.out (fun i hi => ALL.out i (by omega))
  · have hne : ((l1.length : Int) != (l2.length : Int)) = true := by rw [bne_iff_ne]; omega
    go_enter Try.func23, Try.ntmps23
    go_wp2
    go_ret
    refine ⟨ret_bool ?_, Below.refl _ _⟩
    symm
    rw [decide_eq_false_iff_not]
    intro h; exact hl (by rw [h])

set_option maxHeartbeats 1000000 in
theorem markBoolS_any (v : Value) (l : List Bool) (k : Int) (w : World) (h : w.ownsRow 0 4 1 v l.length (flatL l)) (hn : l.length ≤ 2097152) (hk0 : 0 < k) (hk1 : k ≤ 10000000) :
    Calls Try.prog 24 #[v, .int .i64 k] w fun e w' => e = .returned (.int .i64 (k + l.length)) ∧ (∃ l' : List Bool, l'.length = l.length ∧ w'.ownsRow 0 4 1 v l.length (flatL l')) ∧ Chg (fun g => v.ownBlock = some g) w w' := by
  obtain ⟨a, cap, hv⟩ := owns_val h
  have hcap : cap ≤ maxLen := by
    obtain ⟨_, ⟨e, _⟩ | ⟨g, cap', cur, e, _, _, _, hc, _⟩⟩ := h
    · rw [hv] at e; simp at e; rw [e.2.2]; exact Nat.zero_le _
    · rw [hv] at e; simp at e; rw [e.2]; exact hc
  unfold maxLen at hcap
  have OW : Hid (w.ownsRow 0 4 1 v l.length (flatL l)) := h
  clear h
  rw [hv] at OW ⊢
  clear hv
  go_enter Try.func24, Try.ntmps24
  go_wp2
  go_loopw [1, 5] (fun kk i wr => ∃ j : Nat, j ≤ l.length ∧ i = .int .i64 j ∧ kk = .int .i64 (k + j) ∧ Hid ((∃ l' : List Bool, l'.length = l.length ∧ wr.ownsRow 0 4 1 (.slice a l.length cap) l.length (flatL l')) ∧ Chg (fun g => (Value.slice a l.length cap).ownBlock = some g) w wr))
    (fun _ i _ => l.length - (intOf i).toNat)
  case atStart => exact ⟨0, Nat.zero_le _, rfl, by simp, ⟨l, rfl, OW.out⟩, Chg.refl _ _⟩
  case round =>
    obtain ⟨j, hj, rfl, rfl, hI⟩ := hrel
    obtain ⟨⟨l', hl', hown⟩, hch⟩ := hI.out
    clear hI OW
    by_cases hlt : j < l.length
    · have hex : ∃ g, a = some ⟨g, 0, none⟩ := by
        obtain ⟨_, ⟨e, e2⟩ | ⟨g, cap', cur, e, _⟩⟩ := hown
        · omega
        · simp at e; exact ⟨g, e.1⟩
      obtain ⟨g, rfl⟩ := hex
      have hat := flatL_at l' j (by omega)
      have e0 := (hown.cellAt j (by omega)).trans hat
      have f0 := hown.frozenAt j
      have ST : Hid (∀ b, (wr.setCell ⟨g, j, none⟩ (.bool b)).ownsRow 0 4 1 (.slice (some ⟨g, 0, none⟩) l.length cap) l.length (flatL (l'.set j b)) ∧ Chg (fun g' => (Value.slice (some ⟨g, 0, none⟩) l.length cap).ownBlock = some g') w (wr.setCell ⟨g, j, none⟩ (.bool b))) := fun b => ⟨by have := (hown.stored j (.bool b)).1; rw [flatL_set] at this; exact this, hch.setAt g _ rfl _⟩
      generalize bOf l' j = x0 at *
      clear hown hch hat
      have hb0 : 0 < k + (j : Int) := by omega
      have hb1 : k + (j : Int) ≤ 100000000 := by omega
      go_wp2
      all_goals
        go_roundw
        case rel => exact ⟨j + 1, by omega, by go_num, by go_num, ⟨_, (by rw [List.length_set]; exact hl'), (ST.out _).1⟩, (ST.out _).2⟩
        case measure => simp [intOf]; omega
    · have hjl : j = l.length := by omega
      subst hjl
      go_wp2
      go_ret
      exact ⟨rfl, ⟨l', hl', hown⟩, hch⟩

end Go.Proofs.Ytmpngehhojlmmaa
