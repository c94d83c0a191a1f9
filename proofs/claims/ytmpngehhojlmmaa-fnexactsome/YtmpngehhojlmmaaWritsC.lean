/-
  Lists of writes: copied, held against each other, marked.
-/
import Derived.Test.YtmpngehhojlmmaaWritsB
namespace Go.Proofs.Ytmpngehhojlmmaa
open Go.RowKit

theorem Try.info35 : (Try.prog.info? 35).map (fun i => (i.zero, i.size, i.bytes)) = some (some (.agg #[.int .i64 0, .string ⟨#[]⟩, .int .i64 0, .int .i64 0]), 4, 40) := by kernel_rfl

def zeroW : Wr := (0, ⟨#[]⟩, 0, 0)
theorem flatW_zeros (n : Nat) : (madeCells #[.int .i64 0, .string ⟨#[]⟩, .int .i64 0, .int .i64 0] (n * 4)).toList = flatW (List.replicate n zeroW) := by
  apply List.ext_getElem?
  intro j
  by_cases hj : j < n * 4
  · have hi : j / 4 < (List.replicate n zeroW).length := by simp; omega
    have hat := flatW_at (List.replicate n zeroW) (j / 4) hi
    have hz : (List.replicate n zeroW).getD (j / 4) (0, ⟨#[]⟩, 0, 0) = zeroW := by simp [List.getD, show j / 4 < n by omega]
    simp only [wA, wT, wV, wR, hz] at hat
    have hc : (madeCells #[.int .i64 0, .string ⟨#[]⟩, .int .i64 0, .int .i64 0] (n * 4)).toList[j]? = some ((#[.int .i64 0, .string ⟨#[]⟩, .int .i64 0, .int .i64 0] : Array Value)[j % 4]!) := by simp [madeCells, hj]
    rw [hc]
    rcases (show j % 4 = 0 ∨ j % 4 = 1 ∨ j % 4 = 2 ∨ j % 4 = 3 by omega) with h | h | h | h
    · rw [h, ← (show j / 4 * 4 = j by omega), hat.1]; rfl
    · rw [h, ← (show j / 4 * 4 + 1 = j by omega), hat.2.1]; rfl
    · rw [h, ← (show j / 4 * 4 + 2 = j by omega), hat.2.2.1]; rfl
    · rw [h, ← (show j / 4 * 4 + 3 = j by omega), hat.2.2.2]; rfl
  · rw [List.getElem?_eq_none (by simp [madeCells]; omega), List.getElem?_eq_none (by rw [flatW_length]; simp; omega)]

def wAll (l : List Wr) (i : Nat) : Wr := (wA l i, wT l i, wV l i, wR l i)
theorem wAll_eq (l : List Wr) (i : Nat) (h : i < l.length) : wAll l i = l[i] := by simp [wAll, wA, wT, wV, wR, List.getD, h]
def fillW (l : List Wr) (k : Nat) : List Wr := l.take k ++ List.replicate (l.length - k) zeroW
theorem fillW_length (l : List Wr) (k : Nat) (hk : k ≤ l.length) : (fillW l k).length = l.length := by simp [fillW]; omega
theorem fillW_full (l : List Wr) : fillW l l.length = l := by simp [fillW]
theorem fillW_step (l : List Wr) (k : Nat) (hk : k < l.length) : (fillW l k).set k (wA l k, wT l k, wV l k, wR l k) = fillW l (k + 1) := by
  obtain ⟨m, hm⟩ : ∃ m, l.length - k = m + 1 := ⟨l.length - k - 1, by omega⟩
  have hm2 : l.length - (k + 1) = m := by omega
  have e := wAll_eq l k hk
  unfold wAll at e
  rw [fillW, fillW, hm, hm2, List.replicate_succ, List.set_append_right _ _ (by simp; omega), List.length_take, show k - min k l.length = 0 by omega, List.set_cons_zero, List.take_succ_eq_append_getElem hk, e, List.append_assoc, List.singleton_append]

set_option maxRecDepth 100000 in
set_option maxHeartbeats 1000000 in
theorem toWriteS_any (v : Value) (l : List Wr) (w : World) (hr : Row w v l.length (flatW l)) (hn : l.length ≤ 1048576) :
    Calls Try.prog 16 #[v] w fun e w' => ∃ v', e = .returned v' ∧ w'.ownsRow w.heap.size 35 4 v' l.length (flatW l) ∧ Below w.heap.size w w' := by
  obtain ⟨a, b, off, cap, rfl, hcap, hmax, ha, hk⟩ := hr.writs
  obtain ⟨i0, hi, hz0, hz1, hz2⟩ := info_parts Try.info35
  unfold maxLen at hmax
  go_enter Try.func16, Try.ntmps16
  go_wp2_with (at_make; refine wpList_make_full _ rfl _ _ 28 rfl w.heap.size 35 i0 _ 4 Try.underlying28 hi hz0 hz1 .i64 .i64 _ _ l.length rfl rfl rfl rfl ?c1 ?c2 ?c3 ?_)
  case c1 => rw [hz2]; omega
  case c2 => unfold maxLen; omega
  case c3 => exact Nat.le_refl _
  intro w0 hown0 hgrow0
  have hb0 : Below w.heap.size w w0 := (Below.refl _ _).grown hgrow0 (Nat.le_refl _) (fun k hk => by cases hk)
  clear hgrow0
  go_wp2
  go_loopw [4] (fun i wr => ∃ k : Nat, k ≤ l.length ∧ i = .int .i64 k ∧ wr.ownsRow w.heap.size 35 4 (.slice (some ⟨w.heap.size, 0, none⟩) l.length l.length) l.length (flatW (fillW l k)) ∧ Below w.heap.size w wr)
    (fun i _ => l.length - (intOf i).toNat)
  case atStart =>
    refine ⟨0, Nat.zero_le _, rfl, ?_, hb0⟩
    have : flatW (fillW l 0) = flatW (List.replicate l.length zeroW) := by simp [fillW]
    rw [this, ← flatW_zeros]
    exact hown0
  case round =>
    obtain ⟨k, hkl, rfl, hown, hb⟩ := hrel
    clear hown0 hb0
    by_cases hlt : k < l.length
    · have hal := ha (by omega)
      subst hal
      obtain ⟨c0, c1, c2, c3⟩ := hk k hlt
      have d0 := (hb.cell (by exact cell_lt c0)).trans c0
      have d1 := (hb.cell (by exact cell_lt c1)).trans c1
      have d2 := (hb.cell (by exact cell_lt c2)).trans c2
      have d3 := (hb.cell (by exact cell_lt c3)).trans c3
      clear hk c0 c1 c2 c3 ha
      go_wp2_with fail
      refine (toWrite_any _ _ _ _ _).mono ?_
      rintro e w1 ⟨rfl, hb1⟩
      have own1 := owns_below hown hb1
      have hfl := fillW_length l k hkl
      have hat := flatW_at (fillW l k) k (by omega)
      have e0 := (own1.cellAt (k * 4) (by omega)).trans hat.1
      have e1 := (own1.cellAt (k * 4 + 1) (by omega)).trans hat.2.1
      have e2 := (own1.cellAt (k * 4 + 2) (by omega)).trans hat.2.2.1
      have e3 := (own1.cellAt (k * 4 + 3) (by omega)).trans hat.2.2.2
      have f0 := own1.frozenAt (k * 4)
      have f1 := own1.frozenAt (k * 4 + 1)
      have f2 := own1.frozenAt (k * 4 + 2)
      have f3 := own1.frozenAt (k * 4 + 3)
      have st := ((((own1.stored (k * 4) (.int .i64 (wA l k))).1.stored (k * 4 + 1) (.string (wT l k))).1.stored (k * 4 + 2) (.int .i64 (wV l k))).1.stored (k * 4 + 3) (.int .i64 (wR l k))).1
      rw [flatW_set _ _ _ _ _ k (by omega), fillW_step l k hlt] at st
      have hb2 : Below w.heap.size w w1 := hb.trans (hb1.mono hb.size)
      have ST : Hid _ := And.intro st ((((hb2.setCell (p := ⟨w.heap.size, k * 4, none⟩) (Nat.le_refl _) (.int .i64 (wA l k))).setCell (p := ⟨w.heap.size, k * 4 + 1, none⟩) (Nat.le_refl _) (.string (wT l k))).setCell (p := ⟨w.heap.size, k * 4 + 2, none⟩) (Nat.le_refl _) (.int .i64 (wV l k))).setCell (p := ⟨w.heap.size, k * 4 + 3, none⟩) (Nat.le_refl _) (.int .i64 (wR l k)))
      clear st hown hb1 d0 d1 d2 d3 own1 hat hb2 hb hfl
      generalize wA (fillW l k) k = y0 at *
      generalize wT (fillW l k) k = y1 at *
      generalize wV (fillW l k) k = y2 at *
      generalize wR (fillW l k) k = y3 at *
      go_wp2
      go_roundw
      case rel => exact ⟨k + 1, by omega, by go_num, ST.out.1, ST.out.2⟩
      case measure => simp [intOf]; omega
    · go_wp2
      go_ret
      have hkk : k = l.length := by omega
      subst hkk
      rw [fillW_full] at hown
      exact ⟨_, rfl, hown, hb⟩

theorem eqWrB_true {l1 l2 : List Wr} {k : Nat} (h : eqWrB (wA l1 k) (wT l1 k) (wV l1 k) (wR l1 k) (wA l2 k) (wT l2 k) (wV l2 k) (wR l2 k) = true) : wA l1 k = wA l2 k ∧ wT l1 k = wT l2 k ∧ wV l1 k = wV l2 k ∧ wR l1 k = wR l2 k := by simpa [eqWrB] using h
theorem ne_of_eqWrB {l1 l2 : List Wr} {k : Nat} (h : eqWrB (wA l1 k) (wT l1 k) (wV l1 k) (wR l1 k) (wA l2 k) (wT l2 k) (wV l2 k) (wR l2 k) = false) : l1 ≠ l2 := by
  intro e; subst e; simp [eqWrB] at h

set_option maxHeartbeats 1000000 in
theorem eqWriteS_any (v1 v2 : Value) (l1 l2 : List Wr) (w : World) (h1 : Row w v1 l1.length (flatW l1)) (h2 : Row w v2 l2.length (flatW l2)) :
    Calls Try.prog 18 #[v1, v2] w fun e w' => e = .returned (.bool (decide (l1 = l2))) ∧ Below w.heap.size w w' := by
  obtain ⟨a, b, off, cap, rfl, hcap, hmax, ha, hk⟩ := h1.writs
  obtain ⟨a2, b2, off2, cap2, rfl, hcap2, hmax2, ha2, hk2⟩ := h2.writs
  unfold maxLen at hmax hmax2
  by_cases hl : l1.length = l2.length
  · have hne : ((l1.length : Int) != (l2.length : Int)) = false := by rw [bne_eq_false_iff_eq]; omega
    have HL : Hid (l1.length = l2.length) := hl
    have hl2 : l1.length ≤ l2.length := by omega
    clear hl
    go_enter Try.func18, Try.ntmps18
    go_wp2
    go_loopw [5] (fun i wr => ∃ k : Nat, k ≤ l1.length ∧ i = .int .i64 k ∧ Hid (∀ i, i < k → wA l1 i = wA l2 i ∧ wT l1 i = wT l2 i ∧ wV l1 i = wV l2 i ∧ wR l1 i = wR l2 i) ∧ Below w.heap.size w wr)
      (fun i _ => l1.length - (intOf i).toNat)
    case atStart => exact ⟨0, Nat.zero_le _, rfl, fun i hi => absurd hi (Nat.not_lt_zero _), Below.refl _ _⟩
    case round =>
      obtain ⟨k, hkl, rfl, ALL, hb⟩ := hrel
      by_cases hlt : k < l1.length
      · have hal := ha (by omega)
        subst hal
        have hal2 := ha2 (by omega)
        subst hal2
        have hlt2 : k < l2.length := by omega
        obtain ⟨c0, c1, c2, c3⟩ := hk k hlt
        obtain ⟨c4, c5, c6, c7⟩ := hk2 k hlt2
        have d0 := (hb.cell (by exact cell_lt c0)).trans c0
        have d1 := (hb.cell (by exact cell_lt c1)).trans c1
        have d2 := (hb.cell (by exact cell_lt c2)).trans c2
        have d3 := (hb.cell (by exact cell_lt c3)).trans c3
        have d4 := (hb.cell (by exact cell_lt c4)).trans c4
        have d5 := (hb.cell (by exact cell_lt c5)).trans c5
        have d6 := (hb.cell (by exact cell_lt c6)).trans c6
        have d7 := (hb.cell (by exact cell_lt c7)).trans c7
        clear hk ha hk2 ha2 c0 c1 c2 c3 c4 c5 c6 c7
        go_wp2_with fail
        cases hq : eqWrB (wA l1 k) (wT l1 k) (wV l1 k) (wR l1 k) (wA l2 k) (wT l2 k) (wV l2 k) (wR l2 k)
        · have NE : Hid (decide (l1 = l2) = false) := decide_eq_false (ne_of_eqWrB hq)
          go_region_with (go_at_call 42; refine (eqWrite_any _ _ _ _ _ _ _ _ _).mono ?_; rintro e w1 ⟨rfl, hb1⟩)
          all_goals
            go_wp2
            go_ret
            exact ⟨ret_bool NE.out.symm, hb.drew.trans (hb1.mono hb.size)⟩
        · have EQ : Hid _ := eqWrB_true hq
          go_region_with (go_at_call 42; refine (eqWrite_any _ _ _ _ _ _ _ _ _).mono ?_; rintro e w1 ⟨rfl, hb1⟩)
          all_goals
            go_wp2
            go_roundw
            case rel => exact ⟨k + 1, by omega, by go_num, fun i hi => if h : i < k then ALL.out i h else by rw [show i = k by omega]; exact EQ.out, hb.drew.trans (hb1.mono hb.size)⟩
            case measure => simp [intOf]; omega
      · go_wp2
        go_ret
        refine ⟨ret_bool ?_, hb⟩
        symm
        rw [decide_eq_true_iff]
        exact extW HL.out (fun i hi => ALL.out i (by omega))
  · have hne : ((l1.length : Int) != (l2.length : Int)) = true := by rw [bne_iff_ne]; omega
    go_enter Try.func18, Try.ntmps18
    go_wp2
    go_ret
    refine ⟨ret_bool ?_, Below.refl _ _⟩
    symm
    rw [decide_eq_false_iff_not]
    intro h; exact hl (by rw [h])

end Go.Proofs.Ytmpngehhojlmmaa
