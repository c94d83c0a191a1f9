/-
  Contracts of the small functions of chapter 1 on numbers and messages.
  Contracts of the functions on lists of pairs that the laws and chapter 1 use.
  The shape of a slice that owns its row.
  The laws' own functions that write marks into a list of pairs, and look for them.
  MapGet as a plain function.
  Maps as ascending lists of pairs: putting, deleting, getting; plain mathematics.
  Lists of messages as rows of cells; the laws' own functions on them.
  Trees of messages as plain data, and what it is that a struct's value leads to one.
-/
import Derived.Test.YtckphbmlmjlipaaDoorRows
import Derived.Test.YtckphbmlmjlipaaDoorPart1
import Derived.Deep.QuietTactic
import Derived.BigQuiet
import Derived.Deep.RegionWith
namespace Go.Proofs.YtckphbmlmjlipaaDoor
open Go.RowKit

set_option maxHeartbeats 400000 in
theorem l1In_any (x lo hi : Int) (w : World) :
    Calls Tryd.prog 42 #[.int .i64 x, .int .i64 lo, .int .i64 hi] w fun e w' => e = .returned (.bool (inB x lo hi)) ∧ w' = w := by
  by_cases h1 : lo ≤ x
  · by_cases h2 : x ≤ hi
    · have E : Hid (inB x lo hi = true) := inB_true h1 h2
      go_enter Tryd.func42, Tryd.ntmps42
      go_wp2
      go_ret
      exact ⟨ret_bool E.out.symm, rfl⟩
    · have E : Hid (inB x lo hi = false) := inB_false2 h2
      go_enter Tryd.func42, Tryd.ntmps42
      go_wp2
      go_ret
      exact ⟨ret_bool E.out.symm, rfl⟩
  · have E : Hid (inB x lo hi = false) := inB_false1 h1
    go_enter Tryd.func42, Tryd.ntmps42
    go_wp2
    go_ret
    exact ⟨ret_bool E.out.symm, rfl⟩

set_option maxHeartbeats 400000 in
theorem l1Value_any (x : Int) (w : World) :
    Calls Tryd.prog 73 #[.int .i64 x] w fun e w' => e = .returned (.bool (inB x (-1000000000) 1000000000)) ∧ w' = w := by
  go_enter Tryd.func73, Tryd.ntmps73
  go_wp2_with (go_at_call 42; refine (l1In_any _ _ _ _).mono ?_; rintro e w' ⟨rfl, rfl⟩)
  go_ret
  exact ⟨rfl, rfl⟩

set_option maxHeartbeats 400000 in
theorem specMsgOk_any (o k v : Int) (w : World) :
    Calls Tryd.prog 62 #[.agg #[.int .i64 o, .int .i64 k, .int .i64 v]] w fun e w' => e = .returned (.bool (msgOkB o k v)) ∧ Below w.heap.size w w' := by
  go_enter Tryd.func62, Tryd.ntmps62
  go_wp2_with (first | (go_at_call 42; refine (l1In_any _ _ _ _).mono ?_; rintro e w' ⟨rfl, rfl⟩) | (go_at_call 73; refine (l1Value_any _ _).mono ?_; rintro e w' ⟨rfl, rfl⟩))
  all_goals (go_ret; refine ⟨ret_bool ?_, (Below.refl _ _).alloc (Nat.le_refl _) _⟩; simp_all [msgOkB, Bool.or_assoc])

theorem msgOk_13 {o k v : Int} (h : o = 1 ∨ o = 3) : msgOkB o k v = (inB k 0 999 && inB v (-1000000000) 1000000000) := by
  rcases h with rfl | rfl <;> simp [msgOkB, inB]
theorem msgOk_24 {o k v : Int} (h : o = 2 ∨ o = 4) : msgOkB o k v = (inB k 0 999 && (v == 0)) := by
  have ho : inB o 1 4 = true := by rcases h with rfl | rfl <;> rfl
  have h1 : (o == 1) = false := by rcases h with rfl | rfl <;> rfl
  have h3 : (o == 3) = false := by rcases h with rfl | rfl <;> rfl
  by_cases hv : v = 0
  · subst hv
    have : inB 0 (-1000000000) 1000000000 = true := by decide
    simp [msgOkB, ho, this]
  · have : (v == 0) = false := by simpa using hv
    simp [msgOkB, h1, h3, this]
theorem msgOk_no {o k v : Int} (h1 : (o == 1) = false) (h2 : (o == 2) = false) (h3 : (o == 3) = false) (h4 : (o == 4) = false) : msgOkB o k v = false := by
  have : inB o 1 4 = false := by
    simp only [beq_eq_false_iff_ne] at *
    simp only [inB, decide_eq_false_iff_not]; omega
  simp [msgOkB, this]

end Go.Proofs.YtckphbmlmjlipaaDoor

namespace Go.Proofs.YtckphbmlmjlipaaDoor
open Go.RowKit

set_option maxHeartbeats 400000 in
theorem eqPair_any (a b c d : Int) (w : World) :
    Calls Tryd.prog 48 #[.agg #[.int .i64 a, .int .i64 b], .agg #[.int .i64 c, .int .i64 d]] w fun e w' => e = .returned (.bool (eqPairB a b c d)) ∧ Below w.heap.size w w' := by
  go_enter Tryd.func48, Tryd.ntmps48
  go_wp2
  all_goals (go_ret; refine ⟨ret_bool ?_, ((Below.refl _ _).alloc (Nat.le_refl _) _).alloc (by simp) _⟩; simp_all [eqPairB])

theorem Tryd.info80 : (Tryd.prog.info? 80).map (fun i => (i.zero, i.size, i.bytes)) = some (some (.agg #[.int .i64 0, .int .i64 0]), 2, 16) := by kernel_rfl

def filledP (l : List (Int × Int)) (k : Nat) : List Value := flatP (l.take k) ++ List.replicate ((l.length - k) * 2) (.int .i64 0)

theorem madeCells_all (zs : Array Value) (z : Value) (h0 : 0 < zs.size) (h : ∀ i, i < zs.size → zs[i]! = z) (n : Nat) : (madeCells zs n).toList = List.replicate n z := by
  apply List.ext_getElem?
  intro j
  by_cases hj : j < n
  · simp [madeCells, hj]
    exact h _ (Nat.mod_lt _ h0)
  · simp [madeCells, hj]

theorem filledP_length (l : List (Int × Int)) (k : Nat) (hk : k ≤ l.length) : (filledP l k).length = l.length * 2 := by
  simp [filledP, flatP_length]; omega
theorem filledP_full (l : List (Int × Int)) : filledP l l.length = flatP l := by simp [filledP]
theorem take_succP (l : List (Int × Int)) (k : Nat) (hk : k < l.length) : l.take (k + 1) = l.take k ++ [(kOf l k, vOf l k)] := by
  have e : (kOf l k, vOf l k) = l[k] := by simp [kOf, vOf, List.getD, hk]
  rw [List.take_succ_eq_append_getElem hk, e]
theorem filledP_zero (l : List (Int × Int)) (k : Nat) (hk : k < l.length) : (filledP l k)[k * 2]? = some (.int .i64 0) ∧ (filledP l k)[k * 2 + 1]? = some (.int .i64 0) := by
  have hl : (flatP (l.take k)).length = k * 2 := by rw [flatP_length]; simp; omega
  constructor
  · rw [filledP, List.getElem?_append_right (by omega), List.getElem?_replicate_of_lt (by omega)]
  · rw [filledP, List.getElem?_append_right (by omega), List.getElem?_replicate_of_lt (by omega)]
theorem filledP_step (l : List (Int × Int)) (k : Nat) (hk : k < l.length) : ((filledP l k).set (k * 2) (.int .i64 (kOf l k))).set (k * 2 + 1) (.int .i64 (vOf l k)) = filledP l (k + 1) := by
  have hl : (flatP (l.take k)).length = k * 2 := by rw [flatP_length]; simp; omega
  obtain ⟨m, hm⟩ : ∃ m, (l.length - k) * 2 = m + 1 + 1 := ⟨(l.length - k) * 2 - 2, by omega⟩
  have hm2 : (l.length - (k + 1)) * 2 = m := by omega
  rw [filledP, filledP, take_succP l k hk, flatP_append, hm, hm2, List.replicate_succ, List.replicate_succ]
  rw [List.set_append_right _ _ (by omega), hl, Nat.sub_self, List.set_cons_zero, List.set_append_right _ _ (by omega), hl, show k * 2 + 1 - k * 2 = 1 by omega]
  simp [flatP]

set_option maxHeartbeats 1000000 in
theorem eqPairS_any (v1 v2 : Value) (l1 l2 : List (Int × Int)) (w : World) (h1 : Row w v1 l1.length (flatP l1)) (h2 : Row w v2 l2.length (flatP l2)) :
    Calls Tryd.prog 26 #[v1, v2] w fun e w' => e = .returned (.bool (decide (l1 = l2))) ∧ Below w.heap.size w w' := by
  obtain ⟨a, b, off, cap, rfl, hcap, hmax, ha, hk, hv⟩ := h1.pairs
  obtain ⟨a2, b2, off2, cap2, rfl, hcap2, hmax2, ha2, hk2, hv2⟩ := h2.pairs
  unfold maxLen at hmax hmax2
  by_cases hl : l1.length = l2.length
  · have hne : ((l1.length : Int) != (l2.length : Int)) = false := by rw [bne_eq_false_iff_eq]; omega
    have HL : Hid (l1.length = l2.length) := hl
    have hl2 : l1.length ≤ l2.length := by omega
    clear hl
    go_enter Tryd.func26, Tryd.ntmps26
    go_wp2
    go_loopw [5] (fun i wr => ∃ k : Nat, k ≤ l1.length ∧ i = .int .i64 k ∧ (∀ i, i < k → kOf l1 i = kOf l2 i ∧ vOf l1 i = vOf l2 i) ∧ Below w.heap.size w wr)
      (fun i _ => l1.length - (intOf i).toNat)
    case atStart => exact ⟨0, Nat.zero_le _, rfl, fun i hi => absurd hi (Nat.not_lt_zero _), Below.refl _ _⟩
    case round =>
      obtain ⟨k, hkl, rfl, hall, hb⟩ := hrel
      have ALL : Hid (∀ i, i < k → kOf l1 i = kOf l2 i ∧ vOf l1 i = vOf l2 i) := hall
      clear hall
      by_cases hlt : k < l1.length
      · have hal := ha (by omega)
        subst hal
        have hal2 := ha2 (by omega)
        subst hal2
        have hlt2 : k < l2.length := by omega
        have d0 : wr.cell? ⟨b, off + k * 2, none⟩ = some (.int .i64 (kOf l1 k)) := (hb.cell (by exact cell_lt (hk k hlt))).trans (hk k hlt)
        have d1 : wr.cell? ⟨b, off + k * 2 + 1, none⟩ = some (.int .i64 (vOf l1 k)) := (hb.cell (by exact cell_lt (hv k hlt))).trans (hv k hlt)
        have d2 : wr.cell? ⟨b2, off2 + k * 2, none⟩ = some (.int .i64 (kOf l2 k)) := (hb.cell (by exact cell_lt (hk2 k (by omega)))).trans (hk2 k (by omega))
        have d3 : wr.cell? ⟨b2, off2 + k * 2 + 1, none⟩ = some (.int .i64 (vOf l2 k)) := (hb.cell (by exact cell_lt (hv2 k (by omega)))).trans (hv2 k (by omega))
        clear hk hv ha hk2 hv2 ha2
        go_wp2_with fail
        cases hq : eqPairB (kOf l1 k) (vOf l1 k) (kOf l2 k) (vOf l2 k)
        · have NE : Hid (decide (l1 = l2) = false) := decide_eq_false (ne_of_eqPairB hq)
          go_region_with (go_at_call 48; refine (eqPair_any _ _ _ _ _).mono ?_; rintro e w1 ⟨rfl, hb1⟩)
          all_goals
            go_wp2
            go_ret
            exact ⟨ret_bool NE.out.symm, hb.drew.trans (hb1.mono hb.size)⟩
        · have EQ : Hid (kOf l1 k = kOf l2 k ∧ vOf l1 k = vOf l2 k) := eqPairB_true hq
          go_region_with (go_at_call 48; refine (eqPair_any _ _ _ _ _).mono ?_; rintro e w1 ⟨rfl, hb1⟩)
          all_goals
            go_wp2
            go_roundw
            case rel => exact ⟨k + 1, by omega, by go_num, fun i hi => if h : i < k then ALL.out i h else by rw [show i = k by omega]; exact EQ.out, hb.drew.trans (hb1.mono hb.size)⟩
            case measure => simp [intOf]; omega
      · go_wp2
        go_ret
        refine ⟨ret_bool ?_, hb⟩
        symm
        rw [decide_eq_true_iff]
        exact ext_of HL.out (fun i hi => ALL.out i (by omega))
  · have hne : ((l1.length : Int) != (l2.length : Int)) = true := by rw [bne_iff_ne]; omega
    go_enter Tryd.func26, Tryd.ntmps26
    go_wp2
    go_ret
    refine ⟨ret_bool ?_, Below.refl _ _⟩
    symm
    rw [decide_eq_false_iff_not]
    intro h; exact hl (by rw [h])

end Go.Proofs.YtckphbmlmjlipaaDoor

namespace Go.Proofs.YtckphbmlmjlipaaDoor
open Go.RowKit

theorem owns_val {w : World} {base e size n : Nat} {v : Value} {xs : List Value} (h : w.ownsRow base e size v n xs) : ∃ a cap, v = .slice a n cap := by
  obtain ⟨_, ⟨rfl, rfl⟩ | ⟨g, cap, cur, rfl, _⟩⟩ := h
  · exact ⟨none, 0, rfl⟩
  · exact ⟨_, _, rfl⟩
theorem owns_lt {w : World} {base e size n : Nat} {v : Value} {xs : List Value} (h : w.ownsRow base e size v n xs) {g : Nat} (hg : v.ownBlock = some g) : g < w.heap.size ∧ ∃ cur, w.heap[g]? = some (.cells cur e (0, 0)) := by
  obtain ⟨_, ⟨rfl, rfl⟩ | ⟨g', cap, cur, rfl, _, hh, _⟩⟩ := h
  · simp [Value.ownBlock] at hg
  · simp only [Value.ownBlock, Option.some.injEq] at hg
    subst hg
    exact ⟨(Array.getElem?_eq_some_iff.1 hh).1, cur, hh⟩


end Go.Proofs.YtckphbmlmjlipaaDoor

namespace Go.Proofs.YtckphbmlmjlipaaDoor
open Go.RowKit

theorem flatP_cons (p : Int × Int) (l : List (Int × Int)) : flatP (p :: l) = .int .i64 p.1 :: .int .i64 p.2 :: flatP l := rfl
theorem flatP_set (l : List (Int × Int)) (a b : Int) : ∀ i, i < l.length → ((flatP l).set (i * 2) (.int .i64 a)).set (i * 2 + 1) (.int .i64 b) = flatP (l.set i (a, b)) := by
  induction l with
  | nil => intro i h; simp at h
  | cons p l ih =>
    intro i h
    cases i with
    | zero => simp [flatP_cons]
    | succ i =>
      have := ih i (by simpa using h)
      rw [flatP_cons, List.set_cons_succ, flatP_cons, show (i + 1) * 2 = i * 2 + 1 + 1 by omega, List.set_cons_succ, List.set_cons_succ, List.set_cons_succ, List.set_cons_succ, this]

def marksP (k : Int) (n : Nat) : List (Int × Int) := (List.range n).map fun (i : Nat) => (k + 2 * i, k + 2 * i + 1)
theorem marksP_length (k : Int) (n : Nat) : (marksP k n).length = n := by simp [marksP]
theorem marksP_succ (k : Int) (n : Nat) : marksP k (n + 1) = marksP k n ++ [(k + 2 * n, k + 2 * n + 1)] := by simp [marksP, List.range_succ]
theorem marksP_at (k : Int) (n i : Nat) (h : i < n) : kOf (marksP k n) i = k + 2 * i ∧ vOf (marksP k n) i = k + 2 * i + 1 := by
  simp [marksP, kOf, vOf, List.getD, h]
def midP (k : Int) (l : List (Int × Int)) (i : Nat) : List (Int × Int) := marksP k i ++ l.drop i
theorem midP_length (k : Int) (l : List (Int × Int)) (i : Nat) (h : i ≤ l.length) : (midP k l i).length = l.length := by simp [midP, marksP_length]; omega
theorem midP_zero (k : Int) (l : List (Int × Int)) : midP k l 0 = l := by simp [midP, marksP]
theorem midP_full (k : Int) (l : List (Int × Int)) : midP k l l.length = marksP k l.length := by simp [midP]
theorem midP_step (k : Int) (l : List (Int × Int)) (i : Nat) (h : i < l.length) : (midP k l i).set i (k + 2 * i, k + 2 * i + 1) = midP k l (i + 1) := by
  rw [midP, midP, marksP_succ, List.drop_eq_getElem_cons h, List.set_append_right _ _ (by rw [marksP_length]; omega), marksP_length, Nat.sub_self, List.set_cons_zero]
  simp

set_option maxHeartbeats 1000000 in
theorem markPairS_any (v : Value) (l : List (Int × Int)) (k : Int) (w : World) (h : w.ownsRow 0 80 2 v l.length (flatP l)) (hn : l.length ≤ 4194304) (hk0 : 0 ≤ k) (hk1 : k ≤ 4194304) :
    Calls Tryd.prog 34 #[v, .int .i64 k] w fun e w' => e = .returned (.int .i64 (k + 2 * l.length)) ∧ w'.ownsRow 0 80 2 v l.length (flatP (marksP k l.length)) ∧ Chg (fun g => v.ownBlock = some g) w w' := by
  obtain ⟨a, cap, hv⟩ := owns_val h
  have hcap : cap ≤ maxLen := by
    obtain ⟨_, ⟨e, _⟩ | ⟨g, cap', cur, e, _, _, _, hc, _⟩⟩ := h
    · rw [hv] at e; simp at e; rw [e.2.2]; exact Nat.zero_le _
    · rw [hv] at e; simp at e; rw [e.2]; exact hc
  unfold maxLen at hcap
  have OW : Hid (w.ownsRow 0 80 2 v l.length (flatP l)) := h
  clear h
  rw [hv] at OW ⊢
  clear hv
  go_enter Tryd.func34, Tryd.ntmps34
  go_wp2
  go_loopw [1, 5] (fun kk i wr => ∃ j : Nat, j ≤ l.length ∧ i = .int .i64 j ∧ kk = .int .i64 (k + 2 * j) ∧ wr.ownsRow 0 80 2 (.slice a l.length cap) l.length (flatP (midP k l j)) ∧ Chg (fun g => (Value.slice a l.length cap).ownBlock = some g) w wr)
    (fun _ i _ => l.length - (intOf i).toNat)
  case atStart => exact ⟨0, Nat.zero_le _, rfl, by simp, by rw [midP_zero]; exact OW.out, Chg.refl _ _⟩
  case round =>
    obtain ⟨j, hj, rfl, rfl, hown, hch⟩ := hrel
    by_cases hlt : j < l.length
    · have hex : ∃ g, a = some ⟨g, 0, none⟩ := by
        obtain ⟨_, ⟨e, e2⟩ | ⟨g, cap', cur, e, _⟩⟩ := hown
        · omega
        · simp at e; exact ⟨g, e.1⟩
      obtain ⟨g, rfl⟩ := hex
      have hml : (midP k l j).length = l.length := midP_length k l j hj
      have hat := flatP_at (midP k l j) j (by omega)
      have e0 := (hown.cellAt (j * 2) (by omega)).trans hat.1
      have e1 := (hown.cellAt (j * 2 + 1) (by omega)).trans hat.2
      have f0 := hown.frozenAt (j * 2)
      have f1 := hown.frozenAt (j * 2 + 1)
      have st := (hown.stored (j * 2) (.int .i64 (k + 2 * j))).1
      have st2 := (st.stored (j * 2 + 1) (.int .i64 (k + 2 * j + 1))).1
      rw [flatP_set _ _ _ j (by omega), midP_step k l j hlt] at st2
      have hch2 : Chg (fun g' => (Value.slice (some ⟨g, 0, none⟩) l.length cap).ownBlock = some g') w ((wr.setCell ⟨g, j * 2, none⟩ (.int .i64 (k + 2 * j))).setCell ⟨g, j * 2 + 1, none⟩ (.int .i64 (k + 2 * j + 1))) :=
        (hch.setAt g _ rfl _).setAt g _ rfl _
      generalize kOf (midP k l j) j = x0 at *
      generalize vOf (midP k l j) j = x1 at *
      have ST : Hid _ := And.intro st2 hch2
      clear st st2 hch2 hown hch hml hat OW
      have hb0 : 0 ≤ k + 2 * (j : Int) := by omega
      have hb1 : k + 2 * (j : Int) ≤ 100000000 := by omega
      go_wp2
      go_roundw
      case rel => exact ⟨j + 1, by omega, by go_num, by go_num, ST.out.1, ST.out.2⟩
      case measure => simp [intOf]; omega
    · have hjl : j = l.length := by omega
      subst hjl
      go_wp2
      go_ret
      rw [midP_full] at hown
      exact ⟨rfl, hown, hch⟩

set_option maxHeartbeats 1000000 in
theorem heldPairS_any (v : Value) (n : Nat) (k : Int) (w : World) (h : Row w v n (flatP (marksP k n))) (hn : n ≤ 4194304) (hk0 : 0 ≤ k) (hk1 : k ≤ 4194304) :
    Calls Tryd.prog 38 #[v, .int .i64 k] w fun e w' => e = .returned (.int .i64 (k + 2 * n)) ∧ w' = w := by
  have h' : Row w v (marksP k n).length (flatP (marksP k n)) := by rw [marksP_length]; exact h
  obtain ⟨a, b, off, cap, rfl, hcap, hmax, ha, hk, hv⟩ := h'.pairs
  rw [marksP_length] at *
  unfold maxLen at hmax
  clear h h'
  go_enter Tryd.func38, Tryd.ntmps38
  go_wp2
  go_loop [1, 5] (fun kk i => ∃ j : Nat, j ≤ n ∧ i = .int .i64 j ∧ kk = .int .i64 (k + 2 * j)) (fun _ i => n - (intOf i).toNat)
  case atStart => exact ⟨0, Nat.zero_le _, rfl, by simp⟩
  case round =>
    obtain ⟨j, hj, rfl, rfl⟩ := hrel
    by_cases hlt : j < n
    · have hal := ha (by omega)
      subst hal
      have d0 : w.cell? ⟨b, off + j * 2, none⟩ = some (.int .i64 (k + 2 * j)) := by rw [hk j hlt, (marksP_at k n j hlt).1]
      have d1 : w.cell? ⟨b, off + j * 2 + 1, none⟩ = some (.int .i64 (k + 2 * j + 1)) := by rw [hv j hlt, (marksP_at k n j hlt).2]
      clear hk hv
      have hb0 : 0 ≤ k + 2 * (j : Int) := by omega
      have hb1 : k + 2 * (j : Int) ≤ 100000000 := by omega
      go_wp2
      go_round
      case rel => exact ⟨j + 1, by omega, by go_num, by go_num⟩
      case measure => simp [intOf]; omega
    · have hjl : j = n := by omega
      subst hjl
      go_wp2
      go_ret
      exact ⟨rfl, rfl⟩

end Go.Proofs.YtckphbmlmjlipaaDoor

namespace Go.Proofs.YtckphbmlmjlipaaDoor

def getP : List (Int × Int) → Int → Int × Bool
  | [], _ => (0, false)
  | p :: l, k => if p.1 = k then (p.2, true) else getP l k

theorem getP_hit {l : List (Int × Int)} {x : Int} : ∀ {i : Nat}, i < l.length → (∀ j, j < i → kOf l j ≠ x) → kOf l i = x → getP l x = (vOf l i, true) := by
  induction l with
  | nil => intro i h; simp at h
  | cons p l ih =>
    intro i h hall hx
    cases i with
    | zero =>
      simp only [kOf, List.getD_cons_zero] at hx
      simp [getP, hx, vOf]
    | succ i =>
      have h0 := hall 0 (by omega)
      simp only [kOf, List.getD_cons_zero] at h0
      rw [getP, if_neg h0, ih (by simpa using h) (fun j hj => by have := hall (j + 1) (by omega); simpa [kOf] using this) (by simpa [kOf] using hx)]
      simp [vOf]
theorem getP_none {l : List (Int × Int)} {x : Int} (hall : ∀ j, j < l.length → kOf l j ≠ x) : getP l x = (0, false) := by
  induction l with
  | nil => rfl
  | cons p l ih =>
    have h0 := hall 0 (by simp)
    simp only [kOf, List.getD_cons_zero] at h0
    rw [getP, if_neg h0]
    exact ih (fun j hj => by have := hall (j + 1) (by simpa using hj); simpa [kOf] using this)

end Go.Proofs.YtckphbmlmjlipaaDoor

namespace Go.Proofs.YtckphbmlmjlipaaDoor

abbrev PL := List (Int × Int)
def keys (l : PL) : List Int := l.map (·.1)
def vals (l : PL) : List Int := l.map (·.2)
theorem keys_length (l : PL) : (keys l).length = l.length := by simp [keys]
theorem vals_length (l : PL) : (vals l).length = l.length := by simp [vals]

/-- ascending by key -/
def Asc (l : PL) : Prop := (keys l).Pairwise (· < ·)
theorem Asc.le {l : PL} (h : Asc l) : (keys l).Pairwise (· ≤ ·) := h.imp (fun h => Int.le_of_lt h)
theorem Asc.cons {p : Int × Int} {l : PL} (h : Asc (p :: l)) : (∀ q ∈ l, p.1 < q.1) ∧ Asc l := by
  have := List.pairwise_cons.1 (show (p.1 :: keys l).Pairwise (· < ·) from h)
  exact ⟨fun q hq => this.1 q.1 (List.mem_map_of_mem hq), this.2⟩
theorem Asc.mk {p : Int × Int} {l : PL} (h1 : ∀ q ∈ l, p.1 < q.1) (h2 : Asc l) : Asc (p :: l) := by
  show (p.1 :: keys l).Pairwise (· < ·)
  refine List.pairwise_cons.2 ⟨fun a ha => ?_, h2⟩
  obtain ⟨q, hq, rfl⟩ := List.mem_map.1 ha
  exact h1 q hq

def putF (l : PL) (k v : Int) : PL := l.filter (fun p => decide (p.1 < k)) ++ (k, v) :: l.filter (fun p => decide (k < p.1))
def delF (l : PL) (k : Int) : PL := l.filter (fun p => decide (p.1 ≠ k))

theorem filter_gt {l : PL} {k : Int} (h : ∀ q ∈ l, k < q.1) : l.filter (fun p => decide (p.1 < k)) = [] ∧ l.filter (fun p => decide (k < p.1)) = l ∧ l.filter (fun p => decide (p.1 ≠ k)) = l := by
  refine ⟨List.filter_eq_nil_iff.2 (fun q hq => ?_), List.filter_eq_self.2 (fun q hq => ?_), List.filter_eq_self.2 (fun q hq => ?_)⟩
  · have := h q hq; simp; omega
  · have := h q hq; simp; omega
  · have := h q hq; simp; omega
theorem countP_gt {l : PL} {k : Int} (h : ∀ q ∈ l, k < q.1) : (keys l).countP (fun x => decide (x < k)) = 0 := by
  rw [List.countP_eq_zero]
  intro a ha
  obtain ⟨q, hq, rfl⟩ := List.mem_map.1 ha
  have := h q hq; simp; omega
theorem contains_gt {l : PL} {k : Int} (h : ∀ q ∈ l, k < q.1) : (keys l).contains k = false := by
  rw [Bool.eq_false_iff]
  intro hc
  have hm : k ∈ keys l := by simpa using hc
  obtain ⟨q, hq, e⟩ := List.mem_map.1 hm
  have := h q hq; omega

/-- the three cases of a map whose first pair is p -/
theorem keys_cons (p : Int × Int) (l : PL) : keys (p :: l) = p.1 :: keys l := rfl
theorem vals_cons (p : Int × Int) (l : PL) : vals (p :: l) = p.2 :: vals l := rfl

theorem count_cons (p : Int × Int) (l : PL) (k : Int) : (keys (p :: l)).countP (fun x => decide (x < k)) = (keys l).countP (fun x => decide (x < k)) + if p.1 < k then 1 else 0 := by
  rw [keys_cons, List.countP_cons]; simp
theorem contains_cons (p : Int × Int) (l : PL) (k : Int) : (keys (p :: l)).contains k = (decide (k = p.1) || (keys l).contains k) := by
  rw [keys_cons, List.contains_cons]
  congr 1

/-- PUT, FOUND: the keys stay, one value turns -/
theorem put_found_keys {l : PL} (h : Asc l) {k v : Int} (hf : (keys l).contains k = true) : keys (putF l k v) = keys l ∧ vals (putF l k v) = (vals l).set ((keys l).countP (fun x => decide (x < k))) v := by
  induction l with
  | nil => simp [keys] at hf
  | cons p l ih =>
    obtain ⟨h1, h2⟩ := h.cons
    by_cases hlt : p.1 < k
    · have hf' : (keys l).contains k = true := by rw [contains_cons] at hf; simpa [show ¬ k = p.1 by omega] using hf
      have := ih h2 hf'
      have e : putF (p :: l) k v = p :: putF l k v := by simp [putF, hlt, show ¬ k < p.1 by omega]
      rw [e, count_cons, if_pos hlt, keys_cons, keys_cons, vals_cons, vals_cons, this.1, this.2]
      simp
    · have hp : k = p.1 := by
        rw [contains_cons] at hf
        rcases Bool.or_eq_true _ _ ▸ hf with h' | h'
        · simpa using h'
        · have hm : k ∈ keys l := by simpa using h'
          obtain ⟨q, hq, e⟩ := List.mem_map.1 hm
          have := h1 q hq; omega
      have hg : ∀ q ∈ l, k < q.1 := fun q hq => by rw [hp]; exact h1 q hq
      obtain ⟨f1, f2, _⟩ := filter_gt hg
      have e : putF (p :: l) k v = (k, v) :: l := by simp [putF, hlt, show ¬ k < p.1 by omega, f1, f2]
      rw [e, count_cons, countP_gt hg, if_neg hlt]
      simp [keys_cons, vals_cons, hp]

/-- PUT, NOT FOUND: both rows are opened at one place -/
theorem put_new_keys {l : PL} (h : Asc l) {k v : Int} (hf : (keys l).contains k = false) :
    keys (putF l k v) = (keys l).take ((keys l).countP (fun x => decide (x < k))) ++ k :: (keys l).drop ((keys l).countP (fun x => decide (x < k))) ∧
    vals (putF l k v) = (vals l).take ((keys l).countP (fun x => decide (x < k))) ++ v :: (vals l).drop ((keys l).countP (fun x => decide (x < k))) := by
  induction l with
  | nil => simp [keys, vals, putF]
  | cons p l ih =>
    obtain ⟨h1, h2⟩ := h.cons
    rw [contains_cons, Bool.or_eq_false_iff] at hf
    have hne : ¬ k = p.1 := by simpa using hf.1
    by_cases hlt : p.1 < k
    · have := ih h2 hf.2
      have e : putF (p :: l) k v = p :: putF l k v := by simp [putF, hlt, show ¬ k < p.1 by omega]
      rw [e, count_cons, if_pos hlt, keys_cons, keys_cons, vals_cons, vals_cons, this.1, this.2]
      simp
    · have hg : ∀ q ∈ l, k < q.1 := fun q hq => by have := h1 q hq; omega
      obtain ⟨f1, f2, _⟩ := filter_gt hg
      have e : putF (p :: l) k v = (k, v) :: p :: l := by simp [putF, hlt, show k < p.1 by omega, f1, f2]
      rw [e, count_cons, countP_gt hg, if_neg hlt]
      simp [keys_cons, vals_cons]

theorem del_found_keys {l : PL} (h : Asc l) {k : Int} (hf : (keys l).contains k = true) :
    keys (delF l k) = (keys l).take ((keys l).countP (fun x => decide (x < k))) ++ (keys l).drop ((keys l).countP (fun x => decide (x < k)) + 1) ∧
    vals (delF l k) = (vals l).take ((keys l).countP (fun x => decide (x < k))) ++ (vals l).drop ((keys l).countP (fun x => decide (x < k)) + 1) := by
  induction l with
  | nil => simp [keys] at hf
  | cons p l ih =>
    obtain ⟨h1, h2⟩ := h.cons
    by_cases hlt : p.1 < k
    · have hf' : (keys l).contains k = true := by rw [contains_cons] at hf; simpa [show ¬ k = p.1 by omega] using hf
      have := ih h2 hf'
      have e : delF (p :: l) k = p :: delF l k := by simp [delF, show ¬ p.1 = k by omega]
      rw [e, count_cons, if_pos hlt, keys_cons, keys_cons, vals_cons, vals_cons, this.1, this.2]
      simp
    · have hp : k = p.1 := by
        rw [contains_cons] at hf
        rcases Bool.or_eq_true _ _ ▸ hf with h' | h'
        · simpa using h'
        · have hm : k ∈ keys l := by simpa using h'
          obtain ⟨q, hq, e⟩ := List.mem_map.1 hm
          have := h1 q hq; omega
      have hg : ∀ q ∈ l, k < q.1 := fun q hq => by rw [hp]; exact h1 q hq
      obtain ⟨_, _, f3⟩ := filter_gt hg
      have e : delF (p :: l) k = l := by rw [delF, List.filter_cons_of_neg (by simp [hp]), f3]
      rw [e, count_cons, countP_gt hg, if_neg hlt]
      simp [keys_cons, vals_cons]

theorem del_none {l : PL} {k : Int} (hf : (keys l).contains k = false) : delF l k = l := by
  rw [delF, List.filter_eq_self]
  intro q hq
  simp only [ne_eq, decide_not, Bool.not_eq_eq_eq_not, Bool.not_true, decide_eq_false_iff_not]
  intro e
  have : k ∈ keys l := List.mem_map.2 ⟨q, hq, e⟩
  rw [Bool.eq_false_iff] at hf
  exact hf (by simpa using this)

theorem get_keys {l : PL} (h : Asc l) (k : Int) : (if (keys l).contains k then ((vals l).getD ((keys l).countP (fun x => decide (x < k))) 0, true) else (0, false)) = getP l k := by
  induction l with
  | nil => simp [keys, getP]
  | cons p l ih =>
    obtain ⟨h1, h2⟩ := h.cons
    have := ih h2
    rw [contains_cons, count_cons, getP, vals_cons]
    by_cases hlt : p.1 < k
    · rw [if_neg (show ¬ p.1 = k by omega), if_pos hlt, ← this]
      simp [show ¬ k = p.1 by omega]
    · by_cases he : p.1 = k
      · have hg : ∀ q ∈ l, k < q.1 := fun q hq => by have := h1 q hq; omega
        rw [countP_gt hg, if_neg hlt, if_pos he]
        simp [he.symm]
      · have hg : ∀ q ∈ l, k < q.1 := fun q hq => by have := h1 q hq; omega
        rw [if_neg he, ← this, contains_gt hg]
        simp [show ¬ k = p.1 by omega]

theorem putF_asc {l : PL} (h : Asc l) (k v : Int) : Asc (putF l k v) := by
  show (keys (l.filter _ ++ (k, v) :: l.filter _)).Pairwise (· < ·)
  rw [keys, List.map_append, List.map_cons]
  refine List.pairwise_append.2 ⟨?_, List.pairwise_cons.2 ⟨?_, ?_⟩, ?_⟩
  · exact List.pairwise_map.2 ((List.pairwise_map.1 h).filter _)
  · intro a ha
    obtain ⟨q, hq, rfl⟩ := List.mem_map.1 ha
    simpa using (List.mem_filter.1 hq).2
  · exact List.pairwise_map.2 ((List.pairwise_map.1 h).filter _)
  · intro a ha b hb
    obtain ⟨q, hq, rfl⟩ := List.mem_map.1 ha
    have h1 : q.1 < k := by simpa using (List.mem_filter.1 hq).2
    rcases List.mem_cons.1 hb with rfl | hb
    · exact h1
    · obtain ⟨r, hr, rfl⟩ := List.mem_map.1 hb
      have h2 : k < r.1 := by simpa using (List.mem_filter.1 hr).2
      omega
theorem delF_asc {l : PL} (h : Asc l) (k : Int) : Asc (delF l k) := List.pairwise_map.2 ((List.pairwise_map.1 h).filter _)

/-- each pair within its limits -/
def PairIn (p : Int × Int) : Prop := (0 ≤ p.1 ∧ p.1 ≤ 999) ∧ (-1000000000 ≤ p.2 ∧ p.2 ≤ 1000000000)
def MapP (l : PL) : Prop := Asc l ∧ ∀ p ∈ l, PairIn p

theorem okAt_iff {l : PL} {i : Nat} : okAt l i = true ↔ PairIn (kOf l i, vOf l i) ∧ (i = 0 ∨ kOf l (i - 1) < kOf l i) := by
  simp [okAt, PairIn, inB, and_assoc]

theorem mapOkB_iff (l : PL) : mapOkB l = true ↔ MapP l := by
  constructor
  · intro h
    have hat : ∀ i, i < l.length → okAt l i = true := fun i hi => mapOkB_at h hi
    have hlt : ∀ j, j < l.length → ∀ i, i < j → kOf l i < kOf l j := by
      intro j
      induction j with
      | zero => intro _ i hi; omega
      | succ j ih =>
        intro hj i hi
        have h1 := (okAt_iff.1 (hat (j + 1) hj)).2
        have h2 : kOf l j < kOf l (j + 1) := by simpa using h1
        by_cases e : i = j
        · subst e; exact h2
        · have := ih (by omega) i (by omega); omega
    have hk : ∀ i (hi : i < l.length), l[i] = (kOf l i, vOf l i) := fun i hi => by simp [kOf, vOf, List.getD, hi]
    refine ⟨?_, ?_⟩
    · refine List.pairwise_map.2 (List.pairwise_iff_getElem.2 (fun i j hi hj hij => ?_))
      rw [hk i hi, hk j hj]
      exact hlt j hj i hij
    · intro p hp
      obtain ⟨i, hi, rfl⟩ := List.getElem_of_mem hp
      rw [hk i hi]
      exact (okAt_iff.1 (hat i hi)).1
  · rintro ⟨h1, h2⟩
    have hk : ∀ i (hi : i < l.length), l[i] = (kOf l i, vOf l i) := fun i hi => by simp [kOf, vOf, List.getD, hi]
    refine mapOkB_true (fun i hi => okAt_iff.2 ⟨?_, ?_⟩)
    · rw [← hk i hi]; exact h2 _ (List.getElem_mem hi)
    · by_cases h0 : i = 0
      · exact Or.inl h0
      · right
        have := List.pairwise_iff_getElem.1 (List.pairwise_map.1 h1) (i - 1) i (by omega) hi (by omega)
        rw [hk i hi, hk (i - 1) (by omega)] at this
        exact this

def clampI (x : Int) : Int := if x < -1000000000 then -1000000000 else if 1000000000 < x then 1000000000 else x
theorem clampI_in (x : Int) : -1000000000 ≤ clampI x ∧ clampI x ≤ 1000000000 := by unfold clampI; split <;> (try split) <;> omega

/-- the map behind a message that is right -/
def doP (l : PL) (m : Int × Int × Int) : PL :=
  if m.1 = 1 then putF l m.2.1 m.2.2 else if m.1 = 2 then delF l m.2.1 else if m.1 = 3 then putF l m.2.1 (clampI ((getP l m.2.1).1 + m.2.2)) else l
/-- the map behind a message -/
def doL (l : PL) (m : Int × Int × Int) : PL := if mapOkB l = true ∧ msgOkB m.1 m.2.1 m.2.2 = true then doP l m else l
def allL (l : PL) (ms : List (Int × Int × Int)) : PL := ms.foldl doL l

theorem putF_mapP {l : PL} (h : MapP l) {k v : Int} (hk : 0 ≤ k ∧ k ≤ 999) (hv : -1000000000 ≤ v ∧ v ≤ 1000000000) : MapP (putF l k v) := by
  refine ⟨putF_asc h.1 k v, fun p hp => ?_⟩
  rcases List.mem_append.1 hp with h1 | h1
  · exact h.2 p (List.mem_filter.1 h1).1
  · rcases List.mem_cons.1 h1 with rfl | h2
    · exact ⟨hk, hv⟩
    · exact h.2 p (List.mem_filter.1 h2).1
theorem delF_mapP {l : PL} (h : MapP l) (k : Int) : MapP (delF l k) := ⟨delF_asc h.1 k, fun p hp => h.2 p (List.mem_filter.1 hp).1⟩
theorem putF_length (l : PL) (k v : Int) : (putF l k v).length ≤ l.length + 1 := by
  have h : ∀ (l : PL), (l.filter (fun p => decide (p.1 < k))).length + (l.filter (fun p => decide (k < p.1))).length ≤ l.length := by
    intro l
    induction l with
    | nil => simp
    | cons p l ih =>
      by_cases h1 : p.1 < k
      · have h2 : ¬ k < p.1 := by omega
        simp [h1, h2]; omega
      · by_cases h2 : k < p.1
        · simp [h1, h2]; omega
        · simp [h1, h2]; omega
  have := h l
  simp [putF]; omega
theorem delF_length (l : PL) (k : Int) : (delF l k).length ≤ l.length := List.length_filter_le _ _

theorem msgOkB_in {o k v : Int} (h : msgOkB o k v = true) : (1 ≤ o ∧ o ≤ 4) ∧ (0 ≤ k ∧ k ≤ 999) ∧ (-1000000000 ≤ v ∧ v ≤ 1000000000) := by
  simp only [msgOkB, Bool.and_eq_true, inB_iff] at h
  exact ⟨h.1, h.2.1, h.2.2.1⟩

theorem doP_mapP {l : PL} (h : MapP l) {m : Int × Int × Int} (hm : msgOkB m.1 m.2.1 m.2.2 = true) : MapP (doP l m) := by
  obtain ⟨_, h2, h3⟩ := msgOkB_in hm
  unfold doP
  split
  · exact putF_mapP h h2 h3
  · split
    · exact delF_mapP h _
    · split
      · exact putF_mapP h h2 (clampI_in _)
      · exact h
theorem doP_length (l : PL) (m : Int × Int × Int) : (doP l m).length ≤ l.length + 1 := by
  unfold doP
  split
  · exact putF_length _ _ _
  · split
    · have := delF_length l m.2.1; omega
    · split
      · exact putF_length _ _ _
      · omega
theorem doL_length (l : PL) (m : Int × Int × Int) : (doL l m).length ≤ l.length + 1 := by
  unfold doL
  split
  · exact doP_length _ _
  · omega
theorem allL_length (l : PL) (ms : List (Int × Int × Int)) : (allL l ms).length ≤ l.length + ms.length := by
  induction ms generalizing l with
  | nil => simp [allL]
  | cons m ms ih =>
    have h1 := ih (doL l m)
    have h2 := doL_length l m
    simp only [allL, List.foldl_cons, List.length_cons] at *
    omega
theorem doL_of_not {l : PL} (h : mapOkB l = false) (m : Int × Int × Int) : doL l m = l := by simp [doL, h]
theorem allL_of_not {l : PL} (h : mapOkB l = false) (ms : List (Int × Int × Int)) : allL l ms = l := by
  induction ms with
  | nil => rfl
  | cons m ms ih => rw [allL, List.foldl_cons, doL_of_not h]; exact ih
theorem doL_mapP {l : PL} (h : MapP l) (m : Int × Int × Int) : MapP (doL l m) := by
  unfold doL
  split
  · exact doP_mapP h (by simp_all)
  · exact h
theorem allL_mapP {l : PL} (h : MapP l) (ms : List (Int × Int × Int)) : MapP (allL l ms) := by
  induction ms generalizing l with
  | nil => exact h
  | cons m ms ih => exact ih (doL_mapP h m)

end Go.Proofs.YtckphbmlmjlipaaDoor

namespace Go.Proofs.YtckphbmlmjlipaaDoor
open Go.RowKit

abbrev ML := List (Int × Int × Int)
def mO (l : ML) (i : Nat) : Int := (l.getD i (0, 0, 0)).1
def mK (l : ML) (i : Nat) : Int := (l.getD i (0, 0, 0)).2.1
def mV (l : ML) (i : Nat) : Int := (l.getD i (0, 0, 0)).2.2
theorem ml_at (l : ML) (i : Nat) (h : i < l.length) : l[i] = (mO l i, mK l i, mV l i) := by simp [mO, mK, mV, List.getD, h]
theorem ml_ext {l1 l2 : ML} (hl : l1.length = l2.length) (h : ∀ i, i < l1.length → mO l1 i = mO l2 i ∧ mK l1 i = mK l2 i ∧ mV l1 i = mV l2 i) : l1 = l2 := by
  apply List.ext_getElem hl
  intro i h1 h2
  rw [ml_at l1 i h1, ml_at l2 i h2, (h i h1).1, (h i h1).2.1, (h i h1).2.2]
theorem take_succM (l : ML) (k : Nat) (hk : k < l.length) : l.take (k + 1) = l.take k ++ [(mO l k, mK l k, mV l k)] := by
  rw [List.take_succ_eq_append_getElem hk, ml_at l k hk]

/-- the cells of a list of messages -/
def flatM (l : ML) : List Value := l.flatMap fun m => [.int .i64 m.1, .int .i64 m.2.1, .int .i64 m.2.2]
theorem flatM_cons (m : Int × Int × Int) (l : ML) : flatM (m :: l) = .int .i64 m.1 :: .int .i64 m.2.1 :: .int .i64 m.2.2 :: flatM l := rfl
theorem flatM_append (l m : ML) : flatM (l ++ m) = flatM l ++ flatM m := by simp [flatM, List.flatMap_append]
theorem flatM_length (l : ML) : (flatM l).length = l.length * 3 := by
  induction l with
  | nil => rfl
  | cons a l ih => rw [flatM_cons]; simp only [List.length_cons]; omega
theorem flatM_at (l : ML) : ∀ i, i < l.length → (flatM l)[i * 3]? = some (.int .i64 (mO l i)) ∧ (flatM l)[i * 3 + 1]? = some (.int .i64 (mK l i)) ∧ (flatM l)[i * 3 + 2]? = some (.int .i64 (mV l i)) := by
  induction l with
  | nil => intro i h; simp at h
  | cons a l ih =>
    intro i h
    cases i with
    | zero => simp [flatM_cons, mO, mK, mV]
    | succ i =>
      have := ih i (by simpa using h)
      have e1 : (i + 1) * 3 = i * 3 + 1 + 1 + 1 := by omega
      have e2 : (i + 1) * 3 + 1 = (i * 3 + 1) + 1 + 1 + 1 := by omega
      have e3 : (i + 1) * 3 + 2 = (i * 3 + 2) + 1 + 1 + 1 := by omega
      rw [e3, e2, e1, flatM_cons]
      simpa [mO, mK, mV] using this
theorem flatM_set (l : ML) (a b c : Int) : ∀ i, i < l.length → (((flatM l).set (i * 3) (.int .i64 a)).set (i * 3 + 1) (.int .i64 b)).set (i * 3 + 2) (.int .i64 c) = flatM (l.set i (a, b, c)) := by
  induction l with
  | nil => intro i h; simp at h
  | cons p l ih =>
    intro i h
    cases i with
    | zero => simp [flatM_cons]
    | succ i =>
      have := ih i (by simpa using h)
      rw [flatM_cons, List.set_cons_succ, flatM_cons, show (i + 1) * 3 + 2 = (i * 3 + 2) + 1 + 1 + 1 by omega, show (i + 1) * 3 = i * 3 + 1 + 1 + 1 by omega]
      simp only [List.set_cons_succ]
      rw [this]

theorem Row.msgs {w : World} {v : Value} {l : ML} (h : Row w v l.length (flatM l)) :
    ∃ (a : Option Addr) (b off cap : Nat), v = .slice a l.length cap ∧ l.length ≤ cap ∧ cap ≤ maxLen ∧ (0 < l.length → a = some ⟨b, off, none⟩) ∧
      (∀ i, i < l.length → w.cell? ⟨b, off + i * 3, none⟩ = some (.int .i64 (mO l i))) ∧ (∀ i, i < l.length → w.cell? ⟨b, off + i * 3 + 1, none⟩ = some (.int .i64 (mK l i))) ∧ (∀ i, i < l.length → w.cell? ⟨b, off + i * 3 + 2, none⟩ = some (.int .i64 (mV l i))) := by
  obtain ⟨a, b, off, cap, h1, h2, h3, h4, h5, _⟩ := h
  exact ⟨a, b, off, cap, h1, h2, h3, h4, fun i hi => h5 _ _ (flatM_at l i hi).1, fun i hi => h5 _ _ (flatM_at l i hi).2.1, fun i hi => h5 _ _ (flatM_at l i hi).2.2⟩

def eqMsgB (a b c a' b' c' : Int) : Bool := decide (a = a' ∧ b = b' ∧ c = c')
theorem eqMsgB_true {a b c d e f : Int} (h : eqMsgB a b c d e f = true) : a = d ∧ b = e ∧ c = f := by simpa [eqMsgB] using h
theorem ne_of_eqMsgB {l1 l2 : ML} {k : Nat} (h : eqMsgB (mO l1 k) (mK l1 k) (mV l1 k) (mO l2 k) (mK l2 k) (mV l2 k) = false) : l1 ≠ l2 := by
  intro e; subst e; simp [eqMsgB] at h

set_option maxHeartbeats 400000 in
theorem eqMsg_any (a b c d e f : Int) (w : World) :
    Calls Tryd.prog 49 #[.agg #[.int .i64 a, .int .i64 b, .int .i64 c], .agg #[.int .i64 d, .int .i64 e, .int .i64 f]] w fun r w' => r = .returned (.bool (eqMsgB a b c d e f)) ∧ Below w.heap.size w w' := by
  go_enter Tryd.func49, Tryd.ntmps49
  go_wp2
  all_goals (go_ret; refine ⟨ret_bool ?_, ((Below.refl _ _).alloc (Nat.le_refl _) _).alloc (by simp) _⟩; simp_all [eqMsgB])

set_option maxHeartbeats 1000000 in
theorem eqMsgS_any (v1 v2 : Value) (l1 l2 : ML) (w : World) (h1 : Row w v1 l1.length (flatM l1)) (h2 : Row w v2 l2.length (flatM l2)) :
    Calls Tryd.prog 29 #[v1, v2] w fun e w' => e = .returned (.bool (decide (l1 = l2))) ∧ Below w.heap.size w w' := by
  obtain ⟨a, b, off, cap, rfl, hcap, hmax, ha, ho, hk, hv⟩ := h1.msgs
  obtain ⟨a2, b2, off2, cap2, rfl, hcap2, hmax2, ha2, ho2, hk2, hv2⟩ := h2.msgs
  unfold maxLen at hmax hmax2
  by_cases hl : l1.length = l2.length
  · have hne : ((l1.length : Int) != (l2.length : Int)) = false := by rw [bne_eq_false_iff_eq]; omega
    have HL : Hid (l1.length = l2.length) := hl
    have hl2 : l1.length ≤ l2.length := by omega
    clear hl
    go_enter Tryd.func29, Tryd.ntmps29
    go_wp2
    go_loopw [5] (fun i wr => ∃ k : Nat, k ≤ l1.length ∧ i = .int .i64 k ∧ (∀ i, i < k → mO l1 i = mO l2 i ∧ mK l1 i = mK l2 i ∧ mV l1 i = mV l2 i) ∧ Below w.heap.size w wr)
      (fun i _ => l1.length - (intOf i).toNat)
    case atStart => exact ⟨0, Nat.zero_le _, rfl, fun i hi => absurd hi (Nat.not_lt_zero _), Below.refl _ _⟩
    case round =>
      obtain ⟨k, hkl, rfl, hall, hb⟩ := hrel
      have ALL : Hid (∀ i, i < k → mO l1 i = mO l2 i ∧ mK l1 i = mK l2 i ∧ mV l1 i = mV l2 i) := hall
      clear hall
      by_cases hlt : k < l1.length
      · have hal := ha (by omega)
        subst hal
        have hal2 := ha2 (by omega)
        subst hal2
        have hlt2 : k < l2.length := by omega
        have d0 := (hb.cell (by exact cell_lt (ho k hlt))).trans (ho k hlt)
        have d1 := (hb.cell (by exact cell_lt (hk k hlt))).trans (hk k hlt)
        have d2 := (hb.cell (by exact cell_lt (hv k hlt))).trans (hv k hlt)
        have d3 := (hb.cell (by exact cell_lt (ho2 k hlt2))).trans (ho2 k hlt2)
        have d4 := (hb.cell (by exact cell_lt (hk2 k hlt2))).trans (hk2 k hlt2)
        have d5 := (hb.cell (by exact cell_lt (hv2 k hlt2))).trans (hv2 k hlt2)
        clear ho hk hv ha ho2 hk2 hv2 ha2
        go_wp2_with fail
        cases hq : eqMsgB (mO l1 k) (mK l1 k) (mV l1 k) (mO l2 k) (mK l2 k) (mV l2 k)
        · have NE : Hid (decide (l1 = l2) = false) := decide_eq_false (ne_of_eqMsgB hq)
          go_region_with (go_at_call 49; refine (eqMsg_any _ _ _ _ _ _ _).mono ?_; rintro e w1 ⟨rfl, hb1⟩)
          all_goals
            go_wp2
            go_ret
            exact ⟨ret_bool NE.out.symm, hb.drew.trans (hb1.mono hb.size)⟩
        · have EQ : Hid (mO l1 k = mO l2 k ∧ mK l1 k = mK l2 k ∧ mV l1 k = mV l2 k) := eqMsgB_true hq
          go_region_with (go_at_call 49; refine (eqMsg_any _ _ _ _ _ _ _).mono ?_; rintro e w1 ⟨rfl, hb1⟩)
          all_goals
            go_wp2
            go_roundw
            case rel => exact ⟨k + 1, by omega, by go_num, fun i hi => if h : i < k then ALL.out i h else by rw [show i = k by omega]; exact EQ.out, hb.drew.trans (hb1.mono hb.size)⟩
            case measure => simp [intOf]; omega
      · go_wp2
        go_ret
        refine ⟨ret_bool ?_, hb⟩
        symm
        rw [decide_eq_true_iff]
        exact ml_ext HL.out (fun i hi => ALL.out i (by omega))
  · have hne : ((l1.length : Int) != (l2.length : Int)) = true := by rw [bne_iff_ne]; omega
    go_enter Tryd.func29, Tryd.ntmps29
    go_wp2
    go_ret
    refine ⟨ret_bool ?_, Below.refl _ _⟩
    symm
    rw [decide_eq_false_iff_not]
    intro h; exact hl (by rw [h])

theorem Tryd.info83 : (Tryd.prog.info? 83).map (fun i => (i.zero, i.size, i.bytes)) = some (some (.agg #[.int .i64 0, .int .i64 0, .int .i64 0]), 3, 24) := by kernel_rfl

def filledM (l : ML) (k : Nat) : ML := l.take k ++ List.replicate (l.length - k) (0, 0, 0)
theorem filledM_length (l : ML) (k : Nat) (hk : k ≤ l.length) : (filledM l k).length = l.length := by simp [filledM]; omega
theorem filledM_full (l : ML) : filledM l l.length = l := by simp [filledM]
theorem flatM_zero (n : Nat) : flatM (List.replicate n (0, 0, 0)) = List.replicate (n * 3) (.int .i64 0) := by
  induction n with
  | zero => rfl
  | succ n ih => rw [List.replicate_succ, flatM_cons, ih, show (n + 1) * 3 = n * 3 + 1 + 1 + 1 by omega]; simp [List.replicate_succ]
theorem filledM_step (l : ML) (k : Nat) (hk : k < l.length) : (filledM l k).set k (mO l k, mK l k, mV l k) = filledM l (k + 1) := by
  obtain ⟨m, hm⟩ : ∃ m, l.length - k = m + 1 := ⟨l.length - k - 1, by omega⟩
  rw [filledM, filledM, take_succM l k hk, hm, show l.length - (k + 1) = m by omega, List.replicate_succ, List.set_append_right _ _ (by simp; omega)]
  simp [show min k l.length = k by omega]

end Go.Proofs.YtckphbmlmjlipaaDoor

namespace Go.Proofs.YtckphbmlmjlipaaDoor
open Go.RowKit

/-- A TREE. -/
structure Tr where
  leaf : Bool
  pairs : List (Int × Int)
  cuts : List Int
  kids : List Tr
  buf : ML

/-- THE FIVE CELLS OF A TREE'S STRUCT. -/
structure TV where
  lf : Bool
  p : Value
  c : Value
  k : Value
  b : Value

def TV.cells (x : TV) : List Value := [.bool x.lf, x.p, x.c, x.k, x.b]
abbrev TV.val (x : TV) : Value := .agg #[.bool x.lf, x.p, x.c, x.k, x.b]
def flatT (l : List TV) : List Value := l.flatMap TV.cells
def flatI (l : List Int) : List Value := l.map (.int .i64)

def noTr : Tr := ⟨true, [], [], [], []⟩
def noTV : TV := ⟨false, .slice none 0 0, .slice none 0 0, .slice none 0 0, .slice none 0 0⟩
/-- the i-th kid, cut -/
def kidT (T : Tr) (i : Nat) : Tr := T.kids.getD i noTr
def cutT (T : Tr) (i : Nat) : Int := T.cuts.getD i 0
def iAt (l : List Int) (i : Nat) : Int := l.getD i 0
def tvAt (l : List TV) (i : Nat) : TV := l.getD i noTV

theorem flatI_length (l : List Int) : (flatI l).length = l.length := by simp [flatI]
theorem flatI_at (l : List Int) (i : Nat) (h : i < l.length) : (flatI l)[i]? = some (.int .i64 (iAt l i)) := by simp [flatI, iAt, List.getD, h]
theorem flatT_cons (x : TV) (l : List TV) : flatT (x :: l) = .bool x.lf :: x.p :: x.c :: x.k :: x.b :: flatT l := rfl
theorem flatT_append (l m : List TV) : flatT (l ++ m) = flatT l ++ flatT m := by simp [flatT, List.flatMap_append]
theorem flatT_length (l : List TV) : (flatT l).length = l.length * 5 := by
  induction l with
  | nil => rfl
  | cons a l ih => rw [flatT_cons]; simp only [List.length_cons]; omega
theorem flatT_at (l : List TV) : ∀ i, i < l.length → (flatT l)[i * 5]? = some (.bool (tvAt l i).lf) ∧ (flatT l)[i * 5 + 1]? = some (tvAt l i).p ∧ (flatT l)[i * 5 + 2]? = some (tvAt l i).c ∧ (flatT l)[i * 5 + 3]? = some (tvAt l i).k ∧ (flatT l)[i * 5 + 4]? = some (tvAt l i).b := by
  induction l with
  | nil => intro i h; simp at h
  | cons a l ih =>
    intro i h
    cases i with
    | zero => simp [flatT_cons, tvAt]
    | succ i =>
      have := ih i (by simpa using h)
      rw [show (i + 1) * 5 = i * 5 + 1 + 1 + 1 + 1 + 1 by omega, flatT_cons]
      rw [show i * 5 + 1 + 1 + 1 + 1 + 1 + 1 = (i * 5 + 1) + 1 + 1 + 1 + 1 + 1 by omega, show i * 5 + 1 + 1 + 1 + 1 + 1 + 2 = (i * 5 + 2) + 1 + 1 + 1 + 1 + 1 by omega, show i * 5 + 1 + 1 + 1 + 1 + 1 + 3 = (i * 5 + 3) + 1 + 1 + 1 + 1 + 1 by omega, show i * 5 + 1 + 1 + 1 + 1 + 1 + 4 = (i * 5 + 4) + 1 + 1 + 1 + 1 + 1 by omega]
      simpa [tvAt] using this
theorem flatT_set (l : List TV) (y : TV) : ∀ i, i < l.length → (((((flatT l).set (i * 5) (.bool y.lf)).set (i * 5 + 1) y.p).set (i * 5 + 2) y.c).set (i * 5 + 3) y.k).set (i * 5 + 4) y.b = flatT (l.set i y) := by
  induction l with
  | nil => intro i h; simp at h
  | cons a l ih =>
    intro i h
    cases i with
    | zero => simp [flatT_cons]
    | succ i =>
      have := ih i (by simpa using h)
      rw [flatT_cons, List.set_cons_succ, flatT_cons, show (i + 1) * 5 + 4 = (i * 5 + 4) + 1 + 1 + 1 + 1 + 1 by omega, show (i + 1) * 5 + 3 = (i * 5 + 3) + 1 + 1 + 1 + 1 + 1 by omega, show (i + 1) * 5 + 2 = (i * 5 + 2) + 1 + 1 + 1 + 1 + 1 by omega, show (i + 1) * 5 + 1 = (i * 5 + 1) + 1 + 1 + 1 + 1 + 1 by omega, show (i + 1) * 5 = i * 5 + 1 + 1 + 1 + 1 + 1 by omega]
      simp only [List.set_cons_succ]
      rw [this]

theorem Row.ints {w : World} {v : Value} {l : List Int} (h : Row w v l.length (flatI l)) :
    ∃ (a : Option Addr) (b off cap : Nat), v = .slice a l.length cap ∧ l.length ≤ cap ∧ cap ≤ maxLen ∧ (0 < l.length → a = some ⟨b, off, none⟩) ∧
      (∀ i, i < l.length → w.cell? ⟨b, off + i, none⟩ = some (.int .i64 (iAt l i))) := by
  obtain ⟨a, b, off, cap, h1, h2, h3, h4, h5, _⟩ := h
  exact ⟨a, b, off, cap, h1, h2, h3, h4, fun i hi => h5 _ _ (flatI_at l i hi)⟩
theorem Row.trees {w : World} {v : Value} {l : List TV} (h : Row w v l.length (flatT l)) :
    ∃ (a : Option Addr) (b off cap : Nat), v = .slice a l.length cap ∧ l.length ≤ cap ∧ cap ≤ maxLen ∧ (0 < l.length → a = some ⟨b, off, none⟩) ∧
      (∀ i, i < l.length → w.cell? ⟨b, off + i * 5, none⟩ = some (.bool (tvAt l i).lf)) ∧ (∀ i, i < l.length → w.cell? ⟨b, off + i * 5 + 1, none⟩ = some (tvAt l i).p) ∧ (∀ i, i < l.length → w.cell? ⟨b, off + i * 5 + 2, none⟩ = some (tvAt l i).c) ∧
      (∀ i, i < l.length → w.cell? ⟨b, off + i * 5 + 3, none⟩ = some (tvAt l i).k) ∧ (∀ i, i < l.length → w.cell? ⟨b, off + i * 5 + 4, none⟩ = some (tvAt l i).b) := by
  obtain ⟨a, b, off, cap, h1, h2, h3, h4, h5, _⟩ := h
  exact ⟨a, b, off, cap, h1, h2, h3, h4, fun i hi => h5 _ _ (flatT_at l i hi).1, fun i hi => h5 _ _ (flatT_at l i hi).2.1, fun i hi => h5 _ _ (flatT_at l i hi).2.2.1, fun i hi => h5 _ _ (flatT_at l i hi).2.2.2.1, fun i hi => h5 _ _ (flatT_at l i hi).2.2.2.2⟩
theorem Row.len {w : World} {v : Value} {n : Nat} {xs : List Value} (h : Row w v n xs) : ∃ (a : Option Addr) (cap : Nat), v = .slice a n cap ∧ n ≤ maxLen := by
  obtain ⟨a, b, off, cap, h1, h2, h3, _⟩ := h
  exact ⟨a, cap, h1, Nat.le_trans h2 h3⟩

/-- THE STRUCT x LEADS TO THE TREE T, of a height of at most n. -/
def TreeAt : Nat → World → TV → Tr → Prop
  | 0, _, _, _ => False
  | n + 1, w, x, T => x.lf = T.leaf ∧ Row w x.p T.pairs.length (flatP T.pairs) ∧ Row w x.c T.cuts.length (flatI T.cuts) ∧ Row w x.b T.buf.length (flatM T.buf) ∧
      ∃ xs : List TV, xs.length = T.kids.length ∧ Row w x.k xs.length (flatT xs) ∧ ∀ i, i < xs.length → TreeAt n w (tvAt xs i) (kidT T i)

/-- ROWS OF TREES. -/
def TreesAt (n : Nat) (w : World) (v : Value) (ts : List Tr) : Prop :=
  ∃ xs : List TV, xs.length = ts.length ∧ Row w v xs.length (flatT xs) ∧ ∀ i, i < xs.length → TreeAt n w (tvAt xs i) (ts.getD i noTr)

theorem TreeAt.below : ∀ {n : Nat} {w w' : World} {x : TV} {T : Tr}, TreeAt n w x T → Below w.heap.size w w' → TreeAt n w' x T
  | 0, _, _, _, _, h, _ => h
  | _ + 1, _, _, _, _, ⟨h1, h2, h3, h4, xs, h5, h6, h7⟩, hb => ⟨h1, h2.below hb, h3.below hb, h4.below hb, xs, h5, h6.below hb, fun i hi => (h7 i hi).below hb⟩
theorem TreesAt.below {n : Nat} {w w' : World} {v : Value} {ts : List Tr} (h : TreesAt n w v ts) (hb : Below w.heap.size w w') : TreesAt n w' v ts := by
  obtain ⟨xs, h5, h6, h7⟩ := h
  exact ⟨xs, h5, h6.below hb, fun i hi => (h7 i hi).below hb⟩
theorem TreeAt.up : ∀ {n : Nat} {w : World} {x : TV} {T : Tr}, TreeAt n w x T → TreeAt (n + 1) w x T
  | 0, _, _, _, h => h.elim
  | _ + 1, _, _, _, ⟨h1, h2, h3, h4, xs, h5, h6, h7⟩ => ⟨h1, h2, h3, h4, xs, h5, h6, fun i hi => (h7 i hi).up⟩
theorem TreeAt.le {n m : Nat} {w : World} {x : TV} {T : Tr} (h : TreeAt n w x T) (hm : n ≤ m) : TreeAt m w x T := by
  induction hm with
  | refl => exact h
  | step _ ih => exact ih.up
theorem TreeAt.parts {n : Nat} {w : World} {x : TV} {T : Tr} (h : TreeAt (n + 1) w x T) :
    x.lf = T.leaf ∧ Row w x.p T.pairs.length (flatP T.pairs) ∧ Row w x.c T.cuts.length (flatI T.cuts) ∧ Row w x.b T.buf.length (flatM T.buf) ∧ TreesAt n w x.k T.kids := by
  obtain ⟨h1, h2, h3, h4, xs, h5, h6, h7⟩ := h
  exact ⟨h1, h2, h3, h4, xs, h5, h6, h7⟩
theorem TreeAt.mk {n : Nat} {w : World} {x : TV} {T : Tr} (h1 : x.lf = T.leaf) (h2 : Row w x.p T.pairs.length (flatP T.pairs)) (h3 : Row w x.c T.cuts.length (flatI T.cuts)) (h4 : Row w x.b T.buf.length (flatM T.buf)) (h5 : TreesAt n w x.k T.kids) : TreeAt (n + 1) w x T := by
  obtain ⟨xs, h5, h6, h7⟩ := h5
  exact ⟨h1, h2, h3, h4, xs, h5, h6, h7⟩

/-- how many things a tree has -/
def sizeT : Nat → Tr → Nat
  | 0, _ => 0
  | n + 1, T => T.pairs.length + (T.cuts.length + (T.kids.length + (T.kids.map (sizeT n)).sum + T.buf.length))
def sizeTs (n : Nat) (ts : List Tr) : Nat := ts.length + (ts.map (sizeT n)).sum
def sumTo (n : Nat) (ts : List Tr) (k : Nat) : Nat := ((ts.take k).map (sizeT n)).sum
theorem sumTo_succ (n : Nat) (ts : List Tr) (k : Nat) (h : k < ts.length) : sumTo n ts (k + 1) = sumTo n ts k + sizeT n (ts.getD k noTr) := by
  rw [sumTo, sumTo, List.take_succ_eq_append_getElem h, List.map_append, List.sum_append]
  simp [List.getD, h]
theorem sumTo_all (n : Nat) (ts : List Tr) : sumTo n ts ts.length = (ts.map (sizeT n)).sum := by simp [sumTo]
theorem sumTo_le (n : Nat) (ts : List Tr) : ∀ k, sumTo n ts k ≤ (ts.map (sizeT n)).sum := by
  intro k
  have h : (ts.map (sizeT n)).sum = ((ts.take k).map (sizeT n)).sum + ((ts.drop k).map (sizeT n)).sum := by
    rw [← List.sum_append, ← List.map_append, List.take_append_drop]
  rw [sumTo, h]
  omega
theorem sizeT_kid {n : Nat} {T : Tr} {i : Nat} (hi : i < T.kids.length) : sizeT n (kidT T i) + T.kids.length ≤ sizeT (n + 1) T := by
  have h1 := sumTo_le n T.kids (i + 1)
  rw [sumTo_succ n T.kids i hi] at h1
  show sizeT n (T.kids.getD i noTr) + _ ≤ T.pairs.length + (T.cuts.length + (T.kids.length + (T.kids.map (sizeT n)).sum + T.buf.length))
  omega

/-- what is left of a budget -/
def leftOf (left : Int) (n : Nat) : Int := if (n : Int) ≤ left then left - n else -1

end Go.Proofs.YtckphbmlmjlipaaDoor
