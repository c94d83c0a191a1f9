/-
  Contracts of the functions on lists of supers that the laws use: a super is two numbers, as a pair is.
  The laws' own functions that write marks into a list of supers, and look for them.
  Contracts of the laws' functions on lists of strings: their size, their copy, whether two are alike.
  A string's bytes as a row.
  Trees in memory of their own, each row apart from all others.
  The program's nodeAt: a page read as a node.
  Trees read one after the other, each in memory of its own.
-/
import Derived.Test.YtckphbmlmjlipaaDoorPart3
import Derived.Test.YtckphbmlmjlipaaDoorPart1
import Derived.Test.YtckphbmlmjlipaaDoorRows
import Derived.Deep.QuietTactic
import Derived.BigQuiet
import Derived.Deep.RegionWith
import Derived.Test.YtckphbmlmjlipaaDoorRdMath
import Derived.Lib.ConvBytes
import Derived.Test.YtckphbmlmjlipaaDoorPart5
namespace Go.Proofs.YtckphbmlmjlipaaDoor
open Go.RowKit

set_option maxHeartbeats 400000 in
theorem toSuper_any (k v : Int) (w : World) :
    Calls Tryd.prog 45 #[.agg #[.int .i64 k, .int .i64 v]] w fun e w' => e = .returned (.agg #[.int .i64 k, .int .i64 v]) ∧ Below w.heap.size w w' := by
  go_enter Tryd.func45, Tryd.ntmps45
  go_wp2
  refine bodyPost_ret (v := .agg #[.int .i64 k, .int .i64 v]) (by simp [results, Tryd.results45, go_sem]) rfl ⟨rfl, ?_⟩
  exact (((Below.refl _ _).alloc (Nat.le_refl _) _).alloc (by simp) _).alloc (by simp; omega) _

set_option maxHeartbeats 400000 in
theorem eqSuper_any (a b c d : Int) (w : World) :
    Calls Tryd.prog 50 #[.agg #[.int .i64 a, .int .i64 b], .agg #[.int .i64 c, .int .i64 d]] w fun e w' => e = .returned (.bool (eqPairB a b c d)) ∧ Below w.heap.size w w' := by
  go_enter Tryd.func50, Tryd.ntmps50
  go_wp2
  all_goals (go_ret; refine ⟨ret_bool ?_, ((Below.refl _ _).alloc (Nat.le_refl _) _).alloc (by simp) _⟩; simp_all [eqPairB])

set_option maxHeartbeats 400000 in
theorem szSuperS_any (a : Option Addr) (n cap : Nat) (left : Int) (hn : n ≤ maxLen) (hl : 0 ≤ left) (hl2 : left ≤ 1048576) (w : World) :
    Calls Tryd.prog 17 #[.slice a n cap, .int .i64 left] w fun e w' => e = .returned (.int .i64 (if (n : Int) ≤ left then left - n else -1)) ∧ w' = w := by
  unfold maxLen at hn
  by_cases h : (n : Int) ≤ left
  · go_enter Tryd.func17, Tryd.ntmps17
    go_wp2
    go_ret
    exact ⟨rfl, rfl⟩
  · go_enter Tryd.func17, Tryd.ntmps17
    go_wp2
    go_ret
    exact ⟨rfl, rfl⟩

theorem Tryd.info67 : (Tryd.prog.info? 67).map (fun i => (i.zero, i.size, i.bytes)) = some (some (.agg #[.int .i64 0, .int .i64 0]), 2, 16) := by kernel_rfl

set_option maxHeartbeats 1000000 in
theorem toSuperS_any (v : Value) (l : List (Int × Int)) (w : World) (hr : Row w v l.length (flatP l)) (hn : l.length ≤ 1048576) :
    Calls Tryd.prog 21 #[v] w fun e w' => ∃ v', e = .returned v' ∧ w'.ownsRow w.heap.size 67 2 v' l.length (flatP l) ∧ Below w.heap.size w w' := by
  obtain ⟨a, b, off, cap, rfl, hcap, hmax, ha, hk, hv⟩ := hr.pairs
  obtain ⟨i0, hi, hz0, hz1, hz2⟩ := info_parts Tryd.info67
  unfold maxLen at hmax
  go_enter Tryd.func21, Tryd.ntmps21
  go_wp2_with (at_make; refine wpList_make_full _ rfl _ _ 35 rfl w.heap.size 67 i0 _ 2 Tryd.underlying35 hi hz0 hz1 .i64 .i64 _ _ l.length rfl rfl rfl rfl ?c1 ?c2 ?c3 ?_)
  case c1 => rw [hz2]; omega
  case c2 => unfold maxLen; omega
  case c3 => exact Nat.le_refl _
  intro w0 hown0 hgrow0
  have hb0 : Below w.heap.size w w0 := (Below.refl _ _).grown hgrow0 (Nat.le_refl _) (fun k hk => by cases hk)
  clear hgrow0
  go_wp2
  go_loopw [4] (fun i wr => ∃ k : Nat, k ≤ l.length ∧ i = .int .i64 k ∧ wr.ownsRow w.heap.size 67 2 (.slice (some ⟨w.heap.size, 0, none⟩) l.length l.length) l.length (filledP l k) ∧ Below w.heap.size w wr)
    (fun i _ => l.length - (intOf i).toNat)
  case atStart => exact ⟨0, Nat.zero_le _, rfl, by rw [madeCells_all _ (.int .i64 0) (by decide) (fun i hi => by match i, hi with | 0, _ => rfl | 1, _ => rfl)] at hown0; simpa [filledP, flatP] using hown0, hb0⟩
  case round =>
    obtain ⟨k, hkl, rfl, hown, hb⟩ := hrel
    clear hown0 hb0
    by_cases hlt : k < l.length
    · have hal := ha (by omega)
      subst hal
      have c0 := hk k hlt
      have c1 := hv k hlt
      have hbl := cell_lt c0
      have d0 : wr.cell? ⟨b, off + k * 2, none⟩ = some (.int .i64 (kOf l k)) := (hb.cell (by exact hbl)).trans c0
      have d1 : wr.cell? ⟨b, off + k * 2 + 1, none⟩ = some (.int .i64 (vOf l k)) := (hb.cell (by exact hbl)).trans c1
      clear hk hv c0 c1 ha
      go_wp2_with fail
      refine (toSuper_any _ _ _).mono ?_
      rintro e w1 ⟨rfl, hb1⟩
      have own1 := owns_below hown hb1
      have e0 := (own1.cellAt (k * 2) (by omega)).trans (filledP_zero l k hlt).1
      have e1 := (own1.cellAt (k * 2 + 1) (by omega)).trans (filledP_zero l k hlt).2
      have f0 := own1.frozenAt (k * 2)
      have f1 := own1.frozenAt (k * 2 + 1)
      have st := (own1.stored (k * 2) (.int .i64 (kOf l k))).1
      have st2 := (st.stored (k * 2 + 1) (.int .i64 (vOf l k))).1
      rw [filledP_step l k hlt] at st2
      have hb2 : Below w.heap.size w w1 := hb.trans (hb1.mono hb.size)
      clear st hown hb1 d0 d1 own1
      have ST : Hid (((w1.setCell ⟨w.heap.size, k * 2, none⟩ (.int .i64 (kOf l k))).setCell ⟨w.heap.size, k * 2 + 1, none⟩ (.int .i64 (vOf l k))).ownsRow w.heap.size 67 2 (.slice (some ⟨w.heap.size, 0, none⟩) l.length l.length) l.length (filledP l (k + 1))) := st2
      clear st2
      go_wp2
      go_roundw
      case rel => exact ⟨k + 1, by omega, by go_num, ST.out, (hb2.setCell (Nat.le_refl _) _).setCell (Nat.le_refl _) _⟩
      case measure => simp [intOf]; omega
    · go_wp2
      go_ret
      have hkk : k = l.length := by omega
      subst hkk
      rw [filledP_full] at hown
      exact ⟨_, rfl, hown, hb⟩

set_option maxHeartbeats 1000000 in
theorem eqSuperS_any (v1 v2 : Value) (l1 l2 : List (Int × Int)) (w : World) (h1 : Row w v1 l1.length (flatP l1)) (h2 : Row w v2 l2.length (flatP l2)) :
    Calls Tryd.prog 31 #[v1, v2] w fun e w' => e = .returned (.bool (decide (l1 = l2))) ∧ Below w.heap.size w w' := by
  obtain ⟨a, b, off, cap, rfl, hcap, hmax, ha, hk, hv⟩ := h1.pairs
  obtain ⟨a2, b2, off2, cap2, rfl, hcap2, hmax2, ha2, hk2, hv2⟩ := h2.pairs
  unfold maxLen at hmax hmax2
  by_cases hl : l1.length = l2.length
  · have hne : ((l1.length : Int) != (l2.length : Int)) = false := by rw [bne_eq_false_iff_eq]; omega
    have HL : Hid (l1.length = l2.length) := hl
    have hl2 : l1.length ≤ l2.length := by omega
    clear hl
    go_enter Tryd.func31, Tryd.ntmps31
    go_wp2
    go_loopw [5] (fun i wr => ∃ k : Nat, k ≤ l1.length ∧ i = .int .i64 k ∧ (∀ i, i < k → kOf l1 i = kOf l2 i ∧ vOf l1 i = vOf l2 i) ∧ Below w.heap.size w wr)
      (fun i _ => l1.length - (intOf i).toNat)
    case atStart => exact ⟨0, Nat.zero_le _, rfl, fun i hi => absurd hi (Nat.not_lt_zero _), Below.refl _ _⟩
    case round =>
      obtain ⟨k, hkl, rfl, hall, hb⟩ := hrel
      have ALL : Hid (∀ i, i < k → kOf l1 i = kOf l2 i ∧ vOf l1 i = vOf l2 i) := hall
      clear hall
      by_cases hlt : k < l1.length
      · have hal := ha (by omega)
        subst hal
        have hal2 := ha2 (by omega)
        subst hal2
        have hlt2 : k < l2.length := by omega
        have d0 : wr.cell? ⟨b, off + k * 2, none⟩ = some (.int .i64 (kOf l1 k)) := (hb.cell (by exact cell_lt (hk k hlt))).trans (hk k hlt)
        have d1 : wr.cell? ⟨b, off + k * 2 + 1, none⟩ = some (.int .i64 (vOf l1 k)) := (hb.cell (by exact cell_lt (hv k hlt))).trans (hv k hlt)
        have d2 : wr.cell? ⟨b2, off2 + k * 2, none⟩ = some (.int .i64 (kOf l2 k)) := (hb.cell (by exact cell_lt (hk2 k (by omega)))).trans (hk2 k (by omega))
        have d3 : wr.cell? ⟨b2, off2 + k * 2 + 1, none⟩ = some (.int .i64 (vOf l2 k)) := (hb.cell (by exact cell_lt (hv2 k (by omega)))).trans (hv2 k (by omega))
        clear hk hv ha hk2 hv2 ha2
        go_wp2_with fail
        cases hq : eqPairB (kOf l1 k) (vOf l1 k) (kOf l2 k) (vOf l2 k)
        · have NE : Hid (decide (l1 = l2) = false) := decide_eq_false (ne_of_eqPairB hq)
          go_region_with (go_at_call 50; refine (eqSuper_any _ _ _ _ _).mono ?_; rintro e w1 ⟨rfl, hb1⟩)
          all_goals
            go_wp2
            go_ret
            exact ⟨ret_bool NE.out.symm, hb.drew.trans (hb1.mono hb.size)⟩
        · have EQ : Hid (kOf l1 k = kOf l2 k ∧ vOf l1 k = vOf l2 k) := eqPairB_true hq
          go_region_with (go_at_call 50; refine (eqSuper_any _ _ _ _ _).mono ?_; rintro e w1 ⟨rfl, hb1⟩)
          all_goals
            go_wp2
            go_roundw
            case rel => exact ⟨k + 1, by omega, by go_num, fun i hi => if h : i < k then ALL.out i h else by rw [show i = k by omega]; exact EQ.out, hb.drew.trans (hb1.mono hb.size)⟩
            case measure => simp [intOf]; omega
      · go_wp2
        go_ret
        refine ⟨ret_bool ?_, hb⟩
        symm
        rw [decide_eq_true_iff]
        exact ext_of HL.out (fun i hi => ALL.out i (by omega))
  · have hne : ((l1.length : Int) != (l2.length : Int)) = true := by rw [bne_iff_ne]; omega
    go_enter Tryd.func31, Tryd.ntmps31
    go_wp2
    go_ret
    refine ⟨ret_bool ?_, Below.refl _ _⟩
    symm
    rw [decide_eq_false_iff_not]
    intro h; exact hl (by rw [h])

end Go.Proofs.YtckphbmlmjlipaaDoor

namespace Go.Proofs.YtckphbmlmjlipaaDoor
open Go.RowKit

set_option maxHeartbeats 1000000 in
theorem markSuperS_any (v : Value) (l : List (Int × Int)) (k : Int) (w : World) (h : w.ownsRow 0 67 2 v l.length (flatP l)) (hn : l.length ≤ 4194304) (hk0 : 0 ≤ k) (hk1 : k ≤ 4194304) :
    Calls Tryd.prog 33 #[v, .int .i64 k] w fun e w' => e = .returned (.int .i64 (k + 2 * l.length)) ∧ w'.ownsRow 0 67 2 v l.length (flatP (marksP k l.length)) ∧ Chg (fun g => v.ownBlock = some g) w w' := by
  obtain ⟨a, cap, hv⟩ := owns_val h
  have hcap : cap ≤ maxLen := by
    obtain ⟨_, ⟨e, _⟩ | ⟨g, cap', cur, e, _, _, _, hc, _⟩⟩ := h
    · rw [hv] at e; simp at e; rw [e.2.2]; exact Nat.zero_le _
    · rw [hv] at e; simp at e; rw [e.2]; exact hc
  unfold maxLen at hcap
  have OW : Hid (w.ownsRow 0 67 2 v l.length (flatP l)) := h
  clear h
  rw [hv] at OW ⊢
  clear hv
  go_enter Tryd.func33, Tryd.ntmps33
  go_wp2
  go_loopw [1, 5] (fun kk i wr => ∃ j : Nat, j ≤ l.length ∧ i = .int .i64 j ∧ kk = .int .i64 (k + 2 * j) ∧ wr.ownsRow 0 67 2 (.slice a l.length cap) l.length (flatP (midP k l j)) ∧ Chg (fun g => (Value.slice a l.length cap).ownBlock = some g) w wr)
    (fun _ i _ => l.length - (intOf i).toNat)
  case atStart => exact ⟨0, Nat.zero_le _, rfl, by simp, by rw [midP_zero]; exact OW.out, Chg.refl _ _⟩
  case round =>
    obtain ⟨j, hj, rfl, rfl, hown, hch⟩ := hrel
    by_cases hlt : j < l.length
    · have hex : ∃ g, a = some ⟨g, 0, none⟩ := by
        obtain ⟨_, ⟨e, e2⟩ | ⟨g, cap', cur, e, _⟩⟩ := hown
        · omega
        · simp at e; exact ⟨g, e.1⟩
      obtain ⟨g, rfl⟩ := hex
      have hml : (midP k l j).length = l.length := midP_length k l j hj
      have hat := flatP_at (midP k l j) j (by omega)
      have e0 := (hown.cellAt (j * 2) (by omega)).trans hat.1
      have e1 := (hown.cellAt (j * 2 + 1) (by omega)).trans hat.2
      have f0 := hown.frozenAt (j * 2)
      have f1 := hown.frozenAt (j * 2 + 1)
      have st := (hown.stored (j * 2) (.int .i64 (k + 2 * j))).1
      have st2 := (st.stored (j * 2 + 1) (.int .i64 (k + 2 * j + 1))).1
      rw [flatP_set _ _ _ j (by omega), midP_step k l j hlt] at st2
      have hch2 : Chg (fun g' => (Value.slice (some ⟨g, 0, none⟩) l.length cap).ownBlock = some g') w ((wr.setCell ⟨g, j * 2, none⟩ (.int .i64 (k + 2 * j))).setCell ⟨g, j * 2 + 1, none⟩ (.int .i64 (k + 2 * j + 1))) :=
        (hch.setAt g _ rfl _).setAt g _ rfl _
      generalize kOf (midP k l j) j = x0 at *
      generalize vOf (midP k l j) j = x1 at *
      have ST : Hid _ := And.intro st2 hch2
      clear st st2 hch2 hown hch hml hat OW
      have hb0 : 0 ≤ k + 2 * (j : Int) := by omega
      have hb1 : k + 2 * (j : Int) ≤ 100000000 := by omega
      go_wp2
      go_roundw
      case rel => exact ⟨j + 1, by omega, by go_num, by go_num, ST.out.1, ST.out.2⟩
      case measure => simp [intOf]; omega
    · have hjl : j = l.length := by omega
      subst hjl
      go_wp2
      go_ret
      rw [midP_full] at hown
      exact ⟨rfl, hown, hch⟩

end Go.Proofs.YtckphbmlmjlipaaDoor

namespace Go.Proofs.YtckphbmlmjlipaaDoor
open Go.RowKit

/-- the cells of a list of strings -/
def flatS (l : List ByteArray) : List Value := l.map Value.string
def sOf (l : List ByteArray) (i : Nat) : ByteArray := l.getD i ByteArray.empty
theorem flatS_length (l : List ByteArray) : (flatS l).length = l.length := by simp [flatS]
theorem flatS_at (l : List ByteArray) (i : Nat) (h : i < l.length) : (flatS l)[i]? = some (.string (sOf l i)) := by simp [flatS, sOf, List.getD, h]
theorem flatS_one (l : List ByteArray) : ∀ y ∈ flatS l, y.oneCell' = true := by
  intro y hy
  simp only [flatS, List.mem_map] at hy
  obtain ⟨s, _, rfl⟩ := hy
  rfl
theorem flatS_append (l m : List ByteArray) : flatS (l ++ m) = flatS l ++ flatS m := by simp [flatS]

theorem Row.strs {w : World} {v : Value} {l : List ByteArray} (h : Row w v l.length (flatS l)) :
    ∃ (a : Option Addr) (b off cap : Nat), v = .slice a l.length cap ∧ l.length ≤ cap ∧ cap ≤ maxLen ∧ (0 < l.length → a = some ⟨b, off, none⟩) ∧
      (∀ i, i < l.length → w.cell? ⟨b, off + i, none⟩ = some (.string (sOf l i))) := by
  obtain ⟨a, b, off, cap, h1, h2, h3, h4, h5, _⟩ := h
  exact ⟨a, b, off, cap, h1, h2, h3, h4, fun i hi => h5 _ _ (flatS_at l i hi)⟩

theorem extS {l1 l2 : List ByteArray} (hl : l1.length = l2.length) (h : ∀ i, i < l1.length → sOf l1 i = sOf l2 i) : l1 = l2 := by
  apply List.ext_getElem hl
  intro i h1 h2
  have := h i h1
  simpa [sOf, List.getD, h1, h2] using this

/-- what is left behind a list of strings; -1: they were too many -/
def szS (left : Int) : List ByteArray → Int
  | [] => left
  | s :: r => if left - s.size < 0 then -1 else szS (left - s.size) r
def szSall (l : List ByteArray) (left : Int) : Int := if left - l.length < 0 then -1 else szS (left - l.length) l
theorem szS_snoc (s : ByteArray) : ∀ (l : List ByteArray) (left : Int), 0 ≤ szS left l → szS left (l ++ [s]) = if szS left l - s.size < 0 then -1 else szS left l - s.size
  | [], left, _ => by rfl
  | x :: r, left, h => by
    simp only [szS, List.cons_append] at h ⊢
    split
    · rename_i hc; rw [if_pos hc] at h; omega
    · rename_i hc; rw [if_neg hc] at h; exact szS_snoc s r _ h
theorem szS_le : ∀ (l : List ByteArray) (left : Int), -1 ≤ left → szS left l ≤ left
  | [], left, _ => by simp [szS]
  | x :: r, left, h => by
    simp only [szS]
    split
    · omega
    · have := szS_le r (left - x.size) (by omega); omega
theorem szS_pre : ∀ (l m : List ByteArray) (left : Int), szS left l = -1 → szS left (l ++ m) = -1 ∨ (l = [] ∧ left = -1)
  | [], m, left, h => by simp [szS] at h; exact Or.inr ⟨rfl, h⟩
  | x :: r, m, left, h => by
    simp only [szS, List.cons_append] at h ⊢
    left
    split
    · rfl
    · rename_i hc
      rw [if_neg hc] at h
      rcases szS_pre r m _ h with h' | ⟨_, h'⟩
      · exact h'
      · omega

theorem takeS_succ (l : List ByteArray) (k : Nat) (hk : k < l.length) : l.take (k + 1) = l.take k ++ [sOf l k] := by
  rw [List.take_succ_eq_append_getElem hk]; simp [sOf, List.getD, hk]

set_option maxHeartbeats 1000000 in
theorem szStringS_any (v : Value) (l : List ByteArray) (left : Int) (w : World) (hr : Row w v l.length (flatS l)) (hz : ∀ s ∈ l, s.size ≤ maxLen) (hl : 0 ≤ left) (hl2 : left ≤ 1048576) :
    Calls Tryd.prog 16 #[v, .int .i64 left] w fun e w' => e = .returned (.int .i64 (szSall l left)) ∧ w' = w := by
  obtain ⟨a, b, off, cap, rfl, hcap, hmax, ha, hk⟩ := hr.strs
  unfold maxLen at hmax
  by_cases h0 : left - l.length < 0
  · have hA : Hid (szSall l left = -1) := by unfold szSall; rw [if_pos h0]; exact rfl
    go_enter Tryd.func16, Tryd.ntmps16
    go_wp2
    go_ret
    exact ⟨ret_int hA.out.symm, rfl⟩
  · have hA : Hid (szSall l left = szS (left - l.length) l) := by unfold szSall; rw [if_neg h0]; exact rfl
    go_enter Tryd.func16, Tryd.ntmps16
    go_wp2
    go_loop [1, 5] (fun x i => ∃ k : Nat, k ≤ l.length ∧ i = .int .i64 k ∧ x = .int .i64 (szS (left - l.length) (l.take k)) ∧ 0 ≤ szS (left - l.length) (l.take k)) (fun _ i => l.length - (intOf i).toNat)
    case atStart => exact ⟨0, Nat.zero_le _, rfl, by simp [szS], by simp [szS]; omega⟩
    case round =>
      obtain ⟨k, hkl, rfl, rfl, hpos⟩ := hrel
      have hle := szS_le (l.take k) (left - l.length) (by omega)
      have SN := szS_snoc (sOf l k) (l.take k) (left - l.length) hpos
      have TE : Hid (l.take l.length = l) := List.take_length
      have PRE := fun m h => szS_pre (l.take (k + 1)) m (left - l.length) h
      by_cases hlt : k < l.length
      · have TS := takeS_succ l k hlt
        have TD : Hid (l.take (k + 1) ++ l.drop (k + 1) = l) := List.take_append_drop _ _
        rw [← TS] at SN
        have hsz : (sOf l k).size ≤ 9223372036854775807 := by
          have := hz (sOf l k) (by simp [sOf, List.getD, hlt]); unfold maxLen at this; omega
        have hal := ha (by omega)
        subst hal
        have d0 := hk k hlt
        have P1 : Hid _ := PRE (l.drop (k + 1))
        have LF : Hid (0 ≤ left - (l.length : Int)) := by show 0 ≤ left - (l.length : Int); omega
        clear PRE hk hz TS
        generalize szS (left - l.length) (l.take k) = x at *
        generalize hxx : szS (left - l.length) (l.take (k + 1)) = xx at *
        have HXX : Hid _ := hxx
        clear hxx
        generalize sOf l k = s at *
        by_cases hc : x - (s.size : Int) < 0
        · rw [if_pos hc] at SN
          have FIN : Hid (szSall l left = -1) := by
            rw [hA.out]
            rcases P1.out SN with h' | ⟨_, h'⟩
            · rw [TD.out] at h'; exact h'
            · have := LF.out; omega
          clear SN P1 HXX TD
          go_wp2
          go_ret
          exact ⟨ret_int FIN.out.symm, rfl⟩
        · rw [if_neg hc] at SN
          have SN' : Hid (xx = x - s.size) := SN
          clear SN P1 TD
          go_wp2
          go_round
          case rel => exact ⟨k + 1, by omega, by go_num, by rw [HXX.out, SN'.out], by rw [HXX.out, SN'.out]; omega⟩
          case measure => simp [intOf]; omega
      · have hkk : k = l.length := by omega
        subst hkk
        clear PRE SN
        rw [TE.out] at hpos hle ⊢
        generalize szS (left - l.length) l = x at *
        go_wp2
        go_ret
        exact ⟨ret_int hA.out.symm, rfl⟩

end Go.Proofs.YtckphbmlmjlipaaDoor

namespace Go.Proofs.YtckphbmlmjlipaaDoor
open Go.RowKit

def bytesOf (s : ByteArray) : List Int := s.data.toList.map fun b => (b.toNat : Int)
theorem bytesOf_length (s : ByteArray) : (bytesOf s).length = s.size := by
  rw [bytesOf, List.length_map, Array.length_toList]
  rfl
theorem bytesOf_in (s : ByteArray) : inByte (bytesOf s) := by
  intro b hb
  simp only [bytesOf, List.mem_map] at hb
  obtain ⟨x, _, rfl⟩ := hb
  have := x.toNat_lt
  omega
/-- the pages' bytes -/
def pgB (l : List ByteArray) : List (List Int) := l.map bytesOf
theorem pgB_length (l : List ByteArray) : (pgB l).length = l.length := by simp [pgB]
theorem pgB_at (l : List ByteArray) (i : Nat) (h : i < l.length) : (pgB l).getD i [] = bytesOf (sOf l i) := by simp [pgB, sOf, List.getD, h]

theorem row_bytes (w : World) (e : TypeId) (s : ByteArray) (hs : s.size ≤ maxLen) :
    Row (Go.Lib.bytesWorld w e s) (.slice (some ⟨w.heap.size, 0, none⟩) s.size (grownCap w s.size 0 e)) (bytesOf s).length (flatB (bytesOf s)) := by
  rw [bytesOf_length]
  refine ⟨some ⟨w.heap.size, 0, none⟩, w.heap.size, 0, grownCap w s.size 0 e, rfl, grownCap_ge _ _ _ _, grownCap_le_maxLen _ _ _ _ hs, fun _ => rfl, fun j u hj => ?_, fun h => by cases h⟩
  have hl : j < s.size := by
    have := (List.getElem?_eq_some_iff.1 hj).1
    rw [flatB_length, bytesOf_length] at this
    exact this
  have e0 : s.data[j]? = some (s.data[j]'hl) := Array.getElem?_eq_getElem hl
  rw [Nat.zero_add, Go.Lib.bytesWorld_cell w e s j hl, ← hj]
  simp [flatB, bytesOf, List.getD, e0]
theorem bel_bytes (w : World) (e : TypeId) (s : ByteArray) : Below w.heap.size w (Go.Lib.bytesWorld w e s) :=
  ⟨rfl, rfl, rfl, by rw [Go.Lib.bytesWorld_size]; omega, fun k hk => Go.Lib.bytesWorld_at_old w e s k hk⟩

end Go.Proofs.YtckphbmlmjlipaaDoor

namespace Go.Proofs.YtckphbmlmjlipaaDoor
open Go.RowKit

theorem OwnE.frame {w w' : World} {base e size n : Nat} {v : Value} {xs : List Value} (h : OwnE w base e size v n xs) (hf : ∀ g, wrB v g → g < w.heap.size → w'.heap[g]? = w.heap[g]?) : OwnE w' base e size v n xs := by
  rcases h with h | h
  · obtain ⟨hl, h | ⟨g, cap, cur, rfl, hg, hh, hn, hcap, hsz, htake⟩⟩ := h
    · exact .inl ⟨hl, .inl h⟩
    · rcases Nat.eq_zero_or_pos cap with h1 | h1
      · subst h1
        have : n = 0 := by omega
        subst this
        exact .inr ⟨rfl, List.length_eq_zero_iff.1 (by omega), g, rfl⟩
      · exact .inl ⟨hl, .inr ⟨g, cap, cur, rfl, hg, (hf g ⟨_, _, rfl, h1⟩ (Array.getElem?_eq_some_iff.1 hh).1).trans hh, hn, hcap, hsz, htake⟩⟩
  · exact .inr h

/-- A TREE IN MEMORY OF ITS OWN: F are its blocks. -/
def TreeD : Nat → World → (Nat → Prop) → TV → Tr → Prop
  | 0, _, _, _, _ => False
  | n + 1, w, F, x, T => x.lf = T.leaf ∧ OwnE w 0 80 2 x.p T.pairs.length (flatP T.pairs) ∧ OwnE w 0 3 1 x.c T.cuts.length (flatI T.cuts) ∧ OwnE w 0 83 3 x.b T.buf.length (flatM T.buf) ∧
      (∀ g, wrB x.p g ∨ wrB x.c g ∨ wrB x.b g ∨ wrB x.k g → F g) ∧
      ∃ (xs : List TV) (K : Nat → Nat → Prop), xs.length = T.kids.length ∧ OwnE w 0 32 5 x.k xs.length (flatT xs) ∧
        (∀ i, i < xs.length → TreeD n w (K i) (tvAt xs i) (T.kids.getD i noTr)) ∧
        (∀ i g, i < xs.length → K i g → F g ∧ ¬ (wrB x.p g ∨ wrB x.c g ∨ wrB x.b g ∨ wrB x.k g)) ∧
        (∀ i j g, i < j → j < xs.length → K i g → ¬ K j g)

theorem TreeD.treeAt : ∀ {n : Nat} {w : World} {F : Nat → Prop} {x : TV} {T : Tr}, TreeD n w F x T → TreeAt n w x T
  | 0, _, _, _, _, h => h.elim
  | _ + 1, _, _, _, _, ⟨h1, h2, h3, h4, _, xs, _, k1, k2, k3, _, _⟩ => ⟨h1, h2.row', h3.row', h4.row', xs, k1, k2.row', fun i hi => (k3 i hi).treeAt⟩
theorem TreeD.mono : ∀ {n : Nat} {w : World} {F G : Nat → Prop} {x : TV} {T : Tr}, TreeD n w F x T → (∀ g, F g → G g) → TreeD n w G x T
  | 0, _, _, _, _, _, h, _ => h.elim
  | _ + 1, _, _, _, _, _, ⟨h1, h2, h3, h4, h5, xs, K, k1, k2, k3, k4, k5⟩, hk => ⟨h1, h2, h3, h4, fun g hg => hk g (h5 g hg), xs, K, k1, k2, k3, fun i g hi hg => ⟨hk g (k4 i g hi hg).1, (k4 i g hi hg).2⟩, k5⟩
theorem TreeD.frame : ∀ {n : Nat} {w w' : World} {F : Nat → Prop} {x : TV} {T : Tr}, TreeD n w F x T → (∀ g, F g → g < w.heap.size → w'.heap[g]? = w.heap[g]?) → TreeD n w' F x T
  | 0, _, _, _, _, _, h, _ => h.elim
  | _ + 1, _, _, _, _, _, ⟨h1, h2, h3, h4, h5, xs, K, k1, k2, k3, k4, k5⟩, hf => ⟨h1, h2.frame (fun g hg => hf g (h5 g (.inl hg))), h3.frame (fun g hg => hf g (h5 g (.inr (.inl hg)))), h4.frame (fun g hg => hf g (h5 g (.inr (.inr (.inl hg))))), h5, xs, K, k1, k2.frame (fun g hg => hf g (h5 g (.inr (.inr (.inr hg))))), fun i hi => (k3 i hi).frame (fun g hg => hf g (k4 i g hi hg).1), k4, k5⟩
theorem TreeD.lt : ∀ {n : Nat} {w : World} {F : Nat → Prop} {x : TV} {T : Tr}, TreeD n w F x T → TreeD n w (fun g => F g ∧ g < w.heap.size) x T
  | 0, _, _, _, _, h => h.elim
  | _ + 1, _, _, _, _, ⟨h1, h2, h3, h4, h5, xs, K, k1, k2, k3, k4, k5⟩ => ⟨h1, h2, h3, h4, fun g hg => ⟨h5 g hg, by
      rcases hg with h | h | h | h
      · exact (h2.lt g h).2
      · exact (h3.lt g h).2
      · exact (h4.lt g h).2
      · exact (k2.lt g h).2⟩, xs, fun i g => K i g ∧ g < _, k1, k2, fun i hi => (k3 i hi).lt, fun i g hi hg => ⟨⟨(k4 i g hi hg.1).1, hg.2⟩, (k4 i g hi hg.1).2⟩, fun i j g hij hj hg hg' => k5 i j g hij hj hg.1 hg'.1⟩
theorem TreeD.chg {n : Nat} {w w' : World} {F P : Nat → Prop} {x : TV} {T : Tr} (h : TreeD n w F x T) (hc : Chg P w w') (hd : ∀ g, F g → ¬ P g) : TreeD n w' F x T := h.frame fun g hg hl => hc.block g hl (hd g hg)
theorem TreeD.below {n : Nat} {w w' : World} {F : Nat → Prop} {x : TV} {T : Tr} (h : TreeD n w F x T) (hb : Below w.heap.size w w') : TreeD n w' F x T := h.frame fun g _ hl => hb.block g hl
theorem TreeD.up : ∀ {n : Nat} {w : World} {F : Nat → Prop} {x : TV} {T : Tr}, TreeD n w F x T → TreeD (n + 1) w F x T
  | 0, _, _, _, _, h => h.elim
  | _ + 1, _, _, _, _, ⟨h1, h2, h3, h4, h5, xs, K, k1, k2, k3, k4, k5⟩ => ⟨h1, h2, h3, h4, h5, xs, K, k1, k2, fun i hi => (k3 i hi).up, k4, k5⟩
theorem TreeD.le {n m : Nat} {w : World} {F : Nat → Prop} {x : TV} {T : Tr} (h : TreeD n w F x T) (hm : n ≤ m) : TreeD m w F x T := by
  obtain ⟨k, rfl⟩ : ∃ k, m = n + k := ⟨m - n, by omega⟩
  clear hm
  induction k with
  | zero => exact h
  | succ k ih => exact ih.up

/-- the blocks from base on, below hi -/
def Zone (base hi : Nat) (g : Nat) : Prop := base ≤ g ∧ g < hi
/-- a leaf that has been read -/
theorem TreeD.leaf {w : World} {base : Nat} {vp : Value} {l : List (Int × Int)} (h : OwnE w base 80 2 vp l.length (flatP l)) :
    TreeD 1 w (Zone base w.heap.size) ⟨true, vp, .slice none 0 0, .slice none 0 0, .slice none 0 0⟩ ⟨true, l, [], [], []⟩ := by
  refine ⟨rfl, h.mono (Nat.zero_le _), OwnE.nil _ _ _ _, OwnE.nil _ _ _ _, fun g hg => ?_, [], fun _ _ => False, rfl, OwnE.nil _ _ _ _, fun i hi => by simp at hi, fun i g hi => by simp at hi, fun i j g _ hj => by simp at hj⟩
  rcases hg with h' | ⟨_, _, h', _⟩ | ⟨_, _, h', _⟩ | ⟨_, _, h', _⟩
  · exact h.lt g h'
  all_goals cases h'

end Go.Proofs.YtckphbmlmjlipaaDoor

namespace Go.Proofs.YtckphbmlmjlipaaDoor
open Go.RowKit

def NodeRd (ea : Addr) (base : Nat) (l : List ByteArray) (a dp : Int) (e : Ending) (w' : World) : Prop :=
  if dp ≤ 7 ∧ 0 ≤ a ∧ a < (l.length : Int) then GetNodePost base (getNodeF ((pgB l).getD a.toNat [])) e w' else e = .panicked (boom ea)
theorem NodeRd.no {ea : Addr} {base : Nat} {l : List ByteArray} {a dp : Int} {w' : World} (h : ¬ (dp ≤ 7 ∧ 0 ≤ a ∧ a < (l.length : Int))) : NodeRd ea base l a dp (.panicked (boom ea)) w' := by
  unfold NodeRd; rw [if_neg h]
theorem NodeRd.yes {ea : Addr} {base : Nat} {l : List ByteArray} {k : Nat} {dp : Int} {e : Ending} {w' : World} (h1 : dp ≤ 7) (hk : k < l.length) (h : GetNodePost base (getNodeF (bytesOf (sOf l k))) e w') : NodeRd ea base l (k : Int) dp e w' := by
  unfold NodeRd
  rw [if_pos ⟨h1, by omega, by omega⟩, Int.toNat_natCast, pgB_at l k hk]
  exact h

theorem GetNodePost.shape {base : Nat} {g : Option NodeV} {e : Ending} {w : World} (h : GetNodePost base g e w) :
    ∃ (b z : Bool) (a1 a2 a3 a4 ak : Option Addr) (n1 n2 n3 n4 nk q1 q2 q3 q4 qk : Nat), e = .returned (.tuple #[.agg #[.bool b, .slice a1 n1 q1, .slice a2 n2 q2, .slice a3 n3 q3, .slice a4 n4 q4], .slice ak nk qk, .bool z]) := by
  cases g with
  | none => exact ⟨false, false, none, none, none, none, none, 0, 0, 0, 0, 0, 0, 0, 0, 0, 0, h⟩
  | some n =>
    obtain ⟨vt, vk, rfl, N⟩ := h
    obtain ⟨t0, a1, a2, a3, a4, ak, m1, m2, m3, m4, mk, q1, q2, q3, q4, qk, rfl, rfl⟩ := N.shape
    exact ⟨t0, true, a1, a2, a3, a4, ak, m1, m2, m3, m4, mk, q1, q2, q3, q4, qk, rfl⟩
theorem GetNodePost.chg {F : Nat → Prop} {base b' : Nat} {g : Option NodeV} {e : Ending} {w w' : World} (h : GetNodePost base g e w) (hc : Chg F w w') (hF : ∀ g, F g → g < base) (hb : b' ≤ base) : GetNodePost b' g e w' := by
  cases g with
  | none => exact h
  | some n =>
    obtain ⟨vt, vk, rfl, N⟩ := h
    exact ⟨vt, vk, rfl, (N.chg hc hF).mono hb⟩

set_option maxRecDepth 100000 in
set_option maxHeartbeats 1000000 in
theorem nodeAt_any (ea : Addr) (v : Value) (l : List ByteArray) (a dp : Int) (w : World) (hr : Row w v l.length (flatS l)) (hz : ∀ s ∈ l, s.size ≤ maxLen) (he : ErrIs ea w) :
    Calls Tryd.prog 46 #[v, .int .i64 a, .int .i64 dp] w fun e w' =>
      NodeRd ea w.heap.size l a dp e w' ∧ Below w.heap.size w w' := by
  have hcv : ∀ (w : World) (s : ByteArray), (convert 9 71 (.string s)).run Tryd.prog w = .ok (.slice (some ⟨w.heap.size, 0, none⟩) s.size (grownCap w s.size 0 5)) (Go.Lib.bytesWorld w 5 s) := fun w s => Go.Lib.run_convert_string_bytes w _ _ 5 s rfl rfl rfl
  obtain ⟨av, bv, ov, cv, hv, hv1, hv2, hv3, hv4, hv5⟩ := id hr
  have b1 : Below w.heap.size w (w.alloc (.cells #[.bool false, .slice none 0 0, .slice none 0 0, .slice none 0 0, .slice none 0 0] 32)) := bel_new _ _
  have n1 : BoxIs (w.alloc (.cells #[.bool false, .slice none 0 0, .slice none 0 0, .slice none 0 0, .slice none 0 0] 32)) w.heap.size (.bool false) (.slice none 0 0) (.slice none 0 0) (.slice none 0 0) (.slice none 0 0) := heap_alloc_new _ _
  generalize hW1 : w.alloc (.cells #[.bool false, .slice none 0 0, .slice none 0 0, .slice none 0 0, .slice none 0 0] 32) = W1 at b1 n1
  have s1 : W1.heap.size = w.heap.size + 1 := by rw [← hW1]; simp
  have E1 : Hid (w.alloc (.cells #[.bool false, .slice none 0 0, .slice none 0 0, .slice none 0 0, .slice none 0 0] 32) = W1) := hW1
  have R1 := hr.below b1
  have e1 := he.below b1
  have HH : Hid _ := And.intro R1 (And.intro e1 (And.intro b1 n1))
  have HV : Hid _ := And.intro hv1 (And.intro hv2 (And.intro hv3 hv4))
  clear hW1 b1 n1 R1 e1 hr he hv1 hv2 hv3 hv4 hv5
  subst hv
  go_enter Tryd.func46, Tryd.ntmps46
  go_wp2_with fail
  rw [E1.out]
  by_cases h1 : dp ≤ 7
  · refine (demand_yes (by simp [h1]) _).mono ?_
    rintro e w1 ⟨rfl, rfl⟩
    by_cases h2 : 0 ≤ a
    · go_wp2_with fail
      by_cases h3 : a < (l.length : Int)
      · obtain ⟨k, rfl⟩ : ∃ k : Nat, a = k := ⟨a.toNat, by omega⟩
        have hk : k < l.length := by omega
        have hav := HV.out.2.2.1 (by omega)
        subst hav
        have hc0 : W1.cell? ⟨bv, ov + k, none⟩ = some (.string (sOf l k)) := (HH.out.2.2.1.cell (p := ⟨bv, ov + k, none⟩) (cell_lt (HV.out.2.2.2 _ _ (flatS_at l k hk)))).trans (HV.out.2.2.2 _ _ (flatS_at l k hk))
        refine (demand_yes (by simp [h3]) _).mono ?_
        rintro e w1 ⟨rfl, rfl⟩
        go_wp2_with fail
        have hm : sOf l k ∈ l := by
          rw [show sOf l k = l[k] by simp [sOf, List.getD, hk]]
          exact List.getElem_mem hk
        have RB := row_bytes W1 5 (sOf l k) (hz _ hm)
        rw [s1] at RB
        have bb := bel_bytes W1 5 (sOf l k)
        have sb : (Go.Lib.bytesWorld W1 5 (sOf l k)).heap.size = w.heap.size + 1 + 1 := by rw [Go.Lib.bytesWorld_size, s1]
        refine (implGetNode_any ea _ (bytesOf (sOf l k)) _ RB (bytesOf_in _) (HH.out.2.1.below bb)).mono ?_
        rintro e w2 ⟨hg, hB⟩
        have x2 := HH.out.2.2.2.chg (Chg.of_below (F := fun _ => False) (Below.and bb hB)) id
        have B2 : Below w.heap.size w w2 := Below.and HH.out.2.2.1 (Below.and bb hB)
        have HK : Hid (k < l.length) := hk
        have HD : Hid (dp ≤ 7) := h1
        rw [sb] at hg
        obtain ⟨t0, z, a1, a2, a3, a4, ak, m1, m2, m3, m4, mk, q1, q2, q3, q4, qk, rfl⟩ := hg.shape
        have s2 := set5_chg w2 w.heap.size (.bool t0) (.slice a1 m1 q1) (.slice a2 m2 q2) (.slice a3 m3 q3) (.slice a4 m4 q4)
        have x3 := x2.set (.bool t0) (.slice a1 m1 q1) (.slice a2 m2 q2) (.slice a3 m3 q3) (.slice a4 m4 q4)
        have G3 := hg.chg (b' := w.heap.size) s2 (fun g hg => by omega) (by omega)
        have B3 : Below w.heap.size w (set5 w2 w.heap.size (.bool t0) (.slice a1 m1 q1) (.slice a2 m2 q2) (.slice a3 m3 q3) (.slice a4 m4 q4)) := B2.trans (s2.below (fun g _ hg => by omega) B2.size)
        obtain ⟨u0, u1, u2, u3, u4⟩ := x2.cell
        have f1 := x2.live
        unfold set5 at x3 G3 B3
        obtain ⟨v0, v1, v2, v3, v4⟩ := x3.cell
        have FF : Hid _ := And.intro G3 B3
        clear G3 B3 s2 x3 hg B2 x2 HH E1 HV hm RB bb sb hB hz hcv
        go_wp2
        simp [bodyPost, results, Tryd.results46, go_sem, v0, v1, v2, v3, v4]
        exact ⟨NodeRd.yes HD.out HK.out FF.out.1, FF.out.2⟩
      · refine (demand_no (by simp [h3]) ea _ HH.out.2.1).mono ?_
        rintro e w1 ⟨rfl, rfl⟩
        go_wp2
        exact ⟨rfl, NodeRd.no (fun h => by omega), HH.out.2.2.1⟩
    · go_wp2_with fail
      refine (demand_no (by simp) ea _ HH.out.2.1).mono ?_
      rintro e w1 ⟨rfl, rfl⟩
      go_wp2
      exact ⟨rfl, NodeRd.no (fun h => by omega), HH.out.2.2.1⟩
  · refine (demand_no (by simp [h1]) ea _ HH.out.2.1).mono ?_
    rintro e w1 ⟨rfl, rfl⟩
    go_wp2
    exact ⟨rfl, NodeRd.no (fun h => by omega), HH.out.2.2.1⟩

end Go.Proofs.YtckphbmlmjlipaaDoor

namespace Go.Proofs.YtckphbmlmjlipaaDoor
open Go.RowKit

def TreesD (d : Nat) (w : World) (base : Nat) (xs : List TV) (ts : List Tr) : Prop :=
  xs.length = ts.length ∧ ∃ p : Nat → Nat, base ≤ p 0 ∧ (∀ i, i < xs.length → p i ≤ p (i + 1)) ∧ p xs.length ≤ w.heap.size ∧ ∀ i, i < xs.length → TreeD d w (Zone (p i) (p (i + 1))) (tvAt xs i) (ts.getD i noTr)

theorem TreesD.nil (d : Nat) (w : World) (base : Nat) (h : base ≤ w.heap.size) : TreesD d w base [] [] :=
  ⟨rfl, fun _ => base, Nat.le_refl _, fun i hi => by simp at hi, h, fun i hi => by simp at hi⟩
theorem TreesD.up {p : Nat → Nat} {n : Nat} (h : ∀ i, i < n → p i ≤ p (i + 1)) : ∀ (j i : Nat), i ≤ j → j ≤ n → p i ≤ p j
  | 0, i, hi, _ => by
    have : i = 0 := by omega
    subst this; exact Nat.le_refl _
  | j + 1, i, hi, hj => by
    rcases Nat.lt_or_ge j i with h' | h'
    · have : i = j + 1 := by omega
      subst this; exact Nat.le_refl _
    · exact Nat.le_trans (TreesD.up h j i h' (by omega)) (h j (by omega))
theorem TreesD.chg {F : Nat → Prop} {d : Nat} {w w' : World} {base : Nat} {xs : List TV} {ts : List Tr} (h : TreesD d w base xs ts) (hc : Chg F w w') (hF : ∀ g, F g → g < base) (hs : w.heap.size ≤ w'.heap.size) : TreesD d w' base xs ts := by
  obtain ⟨h1, p, p0, p1, p2, p3⟩ := h
  refine ⟨h1, p, p0, p1, Nat.le_trans p2 hs, fun i hi => (p3 i hi).chg hc (fun g hg e => ?_)⟩
  have := hF g e
  have := TreesD.up p1 i 0 (by omega) (by omega)
  have := hg.1
  omega
theorem TreesD.snoc {d : Nat} {w w' : World} {base : Nat} {xs : List TV} {ts : List Tr} {x : TV} {t : Tr} (h : TreesD d w base xs ts) (hb : Below w.heap.size w w') (hx : TreeD d w' (Zone w.heap.size w'.heap.size) x t) : TreesD d w' base (xs ++ [x]) (ts ++ [t]) := by
  obtain ⟨h1, p, p0, p1, p2, p3⟩ := h
  refine ⟨by simp [h1], fun i => if i < xs.length then p i else if i = xs.length then w.heap.size else w'.heap.size, ?_, fun i hi => ?_, ?_, fun i hi => ?_⟩
  · show base ≤ if _ then _ else _
    have := TreesD.up p1 xs.length 0 (by omega) (by omega)
    split
    · exact p0
    · split <;> omega
  · simp only [List.length_append, List.length_singleton] at hi
    have := hb.size
    rcases Nat.lt_or_ge (i + 1) xs.length with h' | h'
    · simp only [h', show i < xs.length by omega, if_true]; exact p1 i (by omega)
    · rcases Nat.lt_or_ge i xs.length with h2 | h2
      · have e : i + 1 = xs.length := by omega
        have := p1 i h2
        rw [e] at this
        simp only [h2, e, Nat.lt_irrefl, if_true, if_false]; omega
      · have e : i = xs.length := by omega
        subst e
        simp [show ¬ xs.length + 1 < xs.length by omega]; omega
  · simp [show ¬ xs.length + 1 < xs.length by omega]
  · simp only [List.length_append, List.length_singleton] at hi
    rcases Nat.lt_or_ge i xs.length with h2 | h2
    · have e1 : tvAt (xs ++ [x]) i = tvAt xs i := by simp [tvAt, List.getD, List.getElem?_append, h2]
      have e2 : (ts ++ [t]).getD i noTr = ts.getD i noTr := by simp [List.getD, List.getElem?_append, show i < ts.length by omega]
      rw [e1, e2]
      refine ((p3 i h2).below hb).mono (fun g hg => ?_)
      have h3 := TreesD.up p1 xs.length (i + 1) (by omega) (by omega)
      obtain ⟨g1, g2⟩ := hg
      refine ⟨?_, ?_⟩
      · simp only [h2, if_true]; exact g1
      · rcases Nat.lt_or_ge (i + 1) xs.length with h' | h'
        · simp only [h', if_true]; exact g2
        · have e : i + 1 = xs.length := by omega
          simp only [e, Nat.lt_irrefl, if_true, if_false]
          omega
    · have e : i = xs.length := by omega
      subst e
      have e1 : tvAt (xs ++ [x]) xs.length = x := by simp [tvAt, List.getD]
      have e2 : (ts ++ [t]).getD xs.length noTr = t := by rw [h1]; simp [List.getD]
      rw [e1, e2]
      refine hx.mono (fun g hg => ?_)
      obtain ⟨g1, g2⟩ := hg
      exact ⟨by simpa using g1, by simpa [show ¬ xs.length + 1 < xs.length by omega] using g2⟩
/-- a fork whose kids have been read -/
theorem TreesD.fork {d : Nat} {w : World} {base low N M : Nat} {vc vb : Value} {xs : List TV} {ts : List Tr} {cs : List Int} {bf : ML}
    (h : TreesD d w base xs ts) (hc : OwnE w N 3 1 vc cs.length (flatI cs)) (hb : OwnE w N 83 3 vb bf.length (flatM bf)) (hk : OwnE w N 32 5 (.slice (some ⟨M, 0, none⟩) xs.length xs.length) xs.length (flatT xs))
    (hN : low ≤ N) (hM : M < base) (hcl : ∀ g, wrB vc g → g < base) (hbl : ∀ g, wrB vb g → g < base) (hs : base ≤ w.heap.size) :
    TreeD (d + 1) w (Zone low w.heap.size) ⟨false, .slice none 0 0, vc, .slice (some ⟨M, 0, none⟩) xs.length xs.length, vb⟩ ⟨false, [], cs, ts, bf⟩ := by
  obtain ⟨h1, p, p0, p1, p2, p3⟩ := h
  have own : ∀ g, wrB (.slice none 0 0) g ∨ wrB vc g ∨ wrB vb g ∨ wrB (.slice (some ⟨M, 0, none⟩) xs.length xs.length) g → low ≤ g ∧ g < base := by
    intro g hg
    rcases hg with ⟨_, _, h', _⟩ | h' | h' | h'
    · cases h'
    · exact ⟨Nat.le_trans hN (hc.lt g h').1, hcl g h'⟩
    · exact ⟨Nat.le_trans hN (hb.lt g h').1, hbl g h'⟩
    · have := (hk.lt g h').1
      obtain ⟨_, _, e, _⟩ := h'
      simp at e
      omega
  have lowb : xs.length ≠ 0 → low ≤ base := fun h0 => by
    have := own M (.inr (.inr (.inr ⟨_, _, rfl, by omega⟩)))
    omega
  refine ⟨rfl, OwnE.nil _ _ _ _, hc.mono (Nat.zero_le _), hb.mono (Nat.zero_le _), fun g hg => ?_, xs, fun i => Zone (p i) (p (i + 1)), h1, hk.mono (Nat.zero_le _), p3, fun i g hi hg => ⟨?_, fun e => ?_⟩, fun i j g hij hj hg hg' => ?_⟩
  · have := own g hg
    exact ⟨this.1, by omega⟩
  · have a1 := TreesD.up p1 i 0 (by omega) (by omega)
    have a2 := TreesD.up p1 xs.length (i + 1) (by omega) (by omega)
    have a3 := lowb (by omega)
    obtain ⟨g1, g2⟩ := hg
    exact ⟨by omega, by omega⟩
  · have := own g e
    have a1 := TreesD.up p1 i 0 (by omega) (by omega)
    have := hg.1
    omega
  · have a1 := TreesD.up p1 j (i + 1) (by omega) (by omega)
    have := hg.2
    have := hg'.1
    omega

end Go.Proofs.YtckphbmlmjlipaaDoor
