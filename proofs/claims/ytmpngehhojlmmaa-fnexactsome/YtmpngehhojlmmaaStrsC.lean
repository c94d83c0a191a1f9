/-
  Lists of strings: copied, held against each other, marked.
-/
import Derived.Test.YtmpngehhojlmmaaStrsB
import Derived.Lib.SlicesS
import Derived.Deep.QuietTactic
import Derived.BigQuiet
namespace Go.Proofs.Ytmpngehhojlmmaa
open Go.RowKit

theorem Try.info9 : (Try.prog.info? 9).map (fun i => (i.zero, i.size, i.bytes)) = some (some (.string ⟨#[]⟩), 1, 16) := by kernel_rfl

def filledS (l : List ByteArray) (k : Nat) : List Value := flatS (l.take k) ++ List.replicate (l.length - k) (.string ⟨#[]⟩)
theorem filledS_full (l : List ByteArray) : filledS l l.length = flatS l := by simp [filledS]
theorem filledS_length (l : List ByteArray) (k : Nat) (hk : k ≤ l.length) : (filledS l k).length = l.length := by simp [filledS, flatS_length]; omega
theorem filledS_zero (l : List ByteArray) (k : Nat) (hk : k < l.length) : (filledS l k)[k]? = some (.string ⟨#[]⟩) := by
  have hl : (flatS (l.take k)).length = k := by rw [flatS_length]; simp; omega
  rw [filledS, List.getElem?_append_right (by omega), List.getElem?_replicate_of_lt (by omega)]
theorem filledS_step (l : List ByteArray) (k : Nat) (hk : k < l.length) : (filledS l k).set k (.string (sOf l k)) = filledS l (k + 1) := by
  have hl : (flatS (l.take k)).length = k := by rw [flatS_length]; simp; omega
  obtain ⟨m, hm⟩ : ∃ m, l.length - k = m + 1 := ⟨l.length - k - 1, by omega⟩
  have hm2 : l.length - (k + 1) = m := by omega
  rw [filledS, filledS, takeS_succ l k hk, flatS_append, hm, hm2, List.replicate_succ]
  rw [List.set_append_right _ _ (by omega), hl, Nat.sub_self, List.set_cons_zero]
  simp [flatS]

set_option maxHeartbeats 1000000 in
theorem toStringS_any (v : Value) (l : List ByteArray) (w : World) (hr : Row w v l.length (flatS l)) (hn : l.length ≤ 1048576) :
    Calls Try.prog 37 #[v] w fun e w' => ∃ v', e = .returned v' ∧ w'.ownsRow w.heap.size 9 1 v' l.length (flatS l) ∧ Below w.heap.size w w' := by
  obtain ⟨a, b, off, cap, rfl, hcap, hmax, ha, hk⟩ := hr.strs
  obtain ⟨i0, hi, hz0, hz1, hz2⟩ := info_parts Try.info9
  unfold maxLen at hmax
  go_enter Try.func37, Try.ntmps37
  go_wp2_with (at_make; refine wpList_make_full _ rfl _ _ 24 rfl w.heap.size 9 i0 _ 1 Try.underlying24 hi hz0 hz1 .i64 .i64 _ _ l.length rfl rfl rfl rfl ?c1 ?c2 ?c3 ?_)
  case c1 => rw [hz2]; omega
  case c2 => unfold maxLen; omega
  case c3 => exact Nat.le_refl _
  intro w0 hown0 hgrow0
  have hb0 : Below w.heap.size w w0 := (Below.refl _ _).grown hgrow0 (Nat.le_refl _) (fun k hk => by cases hk)
  clear hgrow0
  go_wp2
  go_loopw [4] (fun i wr => ∃ k : Nat, k ≤ l.length ∧ i = .int .i64 k ∧ wr.ownsRow w.heap.size 9 1 (.slice (some ⟨w.heap.size, 0, none⟩) l.length l.length) l.length (filledS l k) ∧ Below w.heap.size w wr)
    (fun i _ => l.length - (intOf i).toNat)
  case atStart => exact ⟨0, Nat.zero_le _, rfl, by rw [madeCells_all _ (.string ⟨#[]⟩) (by decide) (fun i hi => by match i, hi with | 0, _ => rfl)] at hown0; simpa [filledS, flatS] using hown0, hb0⟩
  case round =>
    obtain ⟨k, hkl, rfl, hown, hb⟩ := hrel
    clear hown0 hb0
    by_cases hlt : k < l.length
    · have hal := ha (by omega)
      subst hal
      have c0 := hk k hlt
      have d0 : wr.cell? ⟨b, off + k, none⟩ = some (.string (sOf l k)) := (hb.cell (by exact cell_lt c0)).trans c0
      have e0 := (hown.cellAt k (by omega)).trans (filledS_zero l k hlt)
      have f0 := hown.frozenAt k
      have st := (hown.stored k (.string (sOf l k))).1
      rw [filledS_step l k hlt] at st
      have ST : Hid ((wr.setCell ⟨w.heap.size, k, none⟩ (.string (sOf l k))).ownsRow w.heap.size 9 1 (.slice (some ⟨w.heap.size, 0, none⟩) l.length l.length) l.length (filledS l (k + 1))) := st
      have HB : Hid _ := hb
      clear hk c0 ha st hown hb
      go_wp2
      go_roundw
      case rel => exact ⟨k + 1, by omega, by go_num, ST.out, HB.out.setCell (Nat.le_refl _) _⟩
      case measure => simp [intOf]; omega
    · go_wp2
      go_ret
      have hkk : k = l.length := by omega
      subst hkk
      rw [filledS_full] at hown
      exact ⟨_, rfl, hown, hb⟩

set_option maxHeartbeats 1000000 in
theorem eqStringS_any (v1 v2 : Value) (l1 l2 : List ByteArray) (w : World) (h1 : Row w v1 l1.length (flatS l1)) (h2 : Row w v2 l2.length (flatS l2)) :
    Calls Try.prog 40 #[v1, v2] w fun e w' => e = .returned (.bool (decide (l1 = l2))) ∧ Below w.heap.size w w' := by
  obtain ⟨a, b, off, cap, rfl, hcap, hmax, ha, hk⟩ := h1.strs
  obtain ⟨a2, b2, off2, cap2, rfl, hcap2, hmax2, ha2, hk2⟩ := h2.strs
  unfold maxLen at hmax hmax2
  by_cases hl : l1.length = l2.length
  · have hne : ((l1.length : Int) != (l2.length : Int)) = false := by rw [bne_eq_false_iff_eq]; omega
    have HL : Hid (l1.length = l2.length) := hl
    have hl2 : l1.length ≤ l2.length := by omega
    clear hl
    go_enter Try.func40, Try.ntmps40
    go_wp2
    go_loopw [5] (fun i wr => ∃ k : Nat, k ≤ l1.length ∧ i = .int .i64 k ∧ Hid (∀ i, i < k → sOf l1 i = sOf l2 i) ∧ Below w.heap.size w wr)
      (fun i _ => l1.length - (intOf i).toNat)
    case atStart => exact ⟨0, Nat.zero_le _, rfl, fun i hi => absurd hi (Nat.not_lt_zero _), Below.refl _ _⟩
    case round =>
      obtain ⟨k, hkl, rfl, ALL, hb⟩ := hrel
      by_cases hlt : k < l1.length
      · have hal := ha (by omega)
        subst hal
        have hal2 := ha2 (by omega)
        subst hal2
        have hlt2 : k < l2.length := by omega
        have d0 := (hb.cell (by exact cell_lt (hk k hlt))).trans (hk k hlt)
        have d1 := (hb.cell (by exact cell_lt (hk2 k hlt2))).trans (hk2 k hlt2)
        clear hk ha hk2 ha2
        by_cases hq : sOf l1 k = sOf l2 k
        · have hq' : ((sOf l1 k).toList == (sOf l2 k).toList) = true := (Lib.bytes_beq_iff _ _).2 hq
          have EQ : Hid (sOf l1 k = sOf l2 k) := hq
          clear hq
          go_wp2_with fail
          go_quiet (fail)
          go_wp2
          go_roundw
          case rel => exact ⟨k + 1, by omega, by go_num, fun i hi => if h : i < k then ALL.out i h else by rw [show i = k by omega]; exact EQ.out, below_drewN hb _⟩
          case measure => simp [intOf]; omega
        · have hq' : ((sOf l1 k).toList == (sOf l2 k).toList) = false := (Lib.bytes_beq_false_iff _ _).2 hq
          have NE : Hid (decide (l1 = l2) = false) := decide_eq_false (fun e => hq (by rw [e]))
          clear hq
          go_wp2_with fail
          go_quiet (fail)
          go_wp2
          go_ret
          exact ⟨ret_bool NE.out.symm, below_drewN hb _⟩
      · go_wp2
        go_ret
        refine ⟨ret_bool ?_, hb⟩
        symm
        rw [decide_eq_true_iff]
        exact extS HL.out (fun i hi => ALL.out i (by omega))
  · have hne : ((l1.length : Int) != (l2.length : Int)) = true := by rw [bne_iff_ne]; omega
    go_enter Try.func40, Try.ntmps40
    go_wp2
    go_ret
    refine ⟨ret_bool ?_, Below.refl _ _⟩
    symm
    rw [decide_eq_false_iff_not]
    intro h; exact hl (by rw [h])

def marksS (k : Int) (n : Nat) : List ByteArray := (List.range n).map fun (i : Nat) => markT (k + i)
theorem marksS_length (k : Int) (n : Nat) : (marksS k n).length = n := by simp [marksS]
theorem marksS_succ (k : Int) (n : Nat) : marksS k (n + 1) = marksS k n ++ [markT (k + n)] := by simp [marksS, List.range_succ]
theorem marksS_at (k : Int) (n i : Nat) (h : i < n) : sOf (marksS k n) i = markT (k + i) := by simp [marksS, sOf, List.getD, h]
def midS (k : Int) (l : List ByteArray) (i : Nat) : List ByteArray := marksS k i ++ l.drop i
theorem midS_length (k : Int) (l : List ByteArray) (i : Nat) (h : i ≤ l.length) : (midS k l i).length = l.length := by simp [midS, marksS_length]; omega
theorem midS_zero (k : Int) (l : List ByteArray) : midS k l 0 = l := by simp [midS, marksS]
theorem midS_full (k : Int) (l : List ByteArray) : midS k l l.length = marksS k l.length := by simp [midS]
theorem midS_step (k : Int) (l : List ByteArray) (i : Nat) (h : i < l.length) : (midS k l i).set i (markT (k + i)) = midS k l (i + 1) := by
  rw [midS, midS, marksS_succ, List.drop_eq_getElem_cons h, List.set_append_right _ _ (by rw [marksS_length]; omega), marksS_length, Nat.sub_self, List.set_cons_zero]
  simp
theorem flatS_set (l : List ByteArray) (s : ByteArray) (i : Nat) : (flatS l).set i (.string s) = flatS (l.set i s) := by simp [flatS, List.map_set]

set_option maxHeartbeats 1000000 in
theorem markStringS_any (v : Value) (l : List ByteArray) (k : Int) (w : World) (h : w.ownsRow 0 9 1 v l.length (flatS l)) (hn : l.length ≤ 2097152) (hk0 : 0 < k) (hk1 : k ≤ 4194304) :
    Calls Try.prog 43 #[v, .int .i64 k] w fun e w' => e = .returned (.int .i64 (k + l.length)) ∧ w'.ownsRow 0 9 1 v l.length (flatS (marksS k l.length)) ∧ Chg (fun g => v.ownBlock = some g) w w' := by
  obtain ⟨a, cap, hv⟩ := owns_val h
  have hcap : cap ≤ maxLen := by
    obtain ⟨_, ⟨e, _⟩ | ⟨g, cap', cur, e, _, _, _, hc, _⟩⟩ := h
    · rw [hv] at e; simp at e; rw [e.2.2]; exact Nat.zero_le _
    · rw [hv] at e; simp at e; rw [e.2]; exact hc
  unfold maxLen at hcap
  have OW : Hid (w.ownsRow 0 9 1 v l.length (flatS l)) := h
  clear h
  rw [hv] at OW ⊢
  clear hv
  go_enter Try.func43, Try.ntmps43
  go_wp2
  go_loopw [1, 5] (fun kk i wr => ∃ j : Nat, j ≤ l.length ∧ i = .int .i64 j ∧ kk = .int .i64 (k + j) ∧ wr.ownsRow 0 9 1 (.slice a l.length cap) l.length (flatS (midS k l j)) ∧ Chg (fun g => (Value.slice a l.length cap).ownBlock = some g) w wr)
    (fun _ i _ => l.length - (intOf i).toNat)
  case atStart => exact ⟨0, Nat.zero_le _, rfl, by simp, by rw [midS_zero]; exact OW.out, Chg.refl _ _⟩
  case round =>
    obtain ⟨j, hj, rfl, rfl, hown, hch⟩ := hrel
    by_cases hlt : j < l.length
    · have hex : ∃ g, a = some ⟨g, 0, none⟩ := by
        obtain ⟨_, ⟨e, e2⟩ | ⟨g, cap', cur, e, _⟩⟩ := hown
        · omega
        · simp at e; exact ⟨g, e.1⟩
      obtain ⟨g, rfl⟩ := hex
      have HO : Hid _ := And.intro hown hch
      clear hown hch OW
      have hb0 : 0 ≤ k + (j : Int) := by omega
      have hb1 : k + (j : Int) ≤ 8000000 := by omega
      go_wp2_with fail
      refine (mark_text (k + j) (by omega) hb1 _).mono ?_
      rintro e w1 ⟨rfl, b1⟩
      have hown := owns_below HO.out.1 b1
      have hch := HO.out.2.trans (Chg.of_below (F := fun g' => (Value.slice (some ⟨g, 0, none⟩) l.length cap).ownBlock = some g') b1) (fun _ _ e => e)
      have hml : (midS k l j).length = l.length := midS_length k l j hj
      have hat := flatS_at (midS k l j) j (by omega)
      have e0 := (hown.cellAt j (by omega)).trans hat
      have f0 := hown.frozenAt j
      have st := (hown.stored j (.string (markT (k + j)))).1
      rw [flatS_set, midS_step k l j hlt] at st
      have hch2 : Chg (fun g' => (Value.slice (some ⟨g, 0, none⟩) l.length cap).ownBlock = some g') w (w1.setCell ⟨g, j, none⟩ (.string (markT (k + j)))) := hch.setAt g _ rfl _
      generalize sOf (midS k l j) j = x0 at *
      have ST : Hid _ := And.intro st hch2
      clear st hch2 hown hch hml hat HO
      go_wp2
      go_roundw
      case rel => exact ⟨j + 1, by omega, by go_num, by go_num, ST.out.1, ST.out.2⟩
      case measure => simp [intOf]; omega
    · have hjl : j = l.length := by omega
      subst hjl
      go_wp2
      go_ret
      rw [midS_full] at hown
      exact ⟨rfl, hown, hch⟩

end Go.Proofs.Ytmpngehhojlmmaa
