/-
  Contracts of the functions on lists of pairs that the laws and chapter 1 use.
-/
import Derived.Test.YtmoaccohnmkleaaMsg
import Derived.Deep.QuietTactic
import Derived.BigQuiet
import Derived.Deep.RegionWith
namespace Go.Proofs.Ytmoaccohnmkleaa
open Go.RowKit

set_option maxHeartbeats 400000 in
theorem toPair_any (k v : Int) (w : World) :
    Calls Try.prog 40 #[.agg #[.int .i64 k, .int .i64 v]] w fun e w' => e = .returned (.agg #[.int .i64 k, .int .i64 v]) ∧ Below w.heap.size w w' := by
  go_enter Try.func40, Try.ntmps40
  go_wp2
  refine bodyPost_ret (v := .agg #[.int .i64 k, .int .i64 v]) (by simp [results, Try.results40, go_sem]) rfl ⟨rfl, ?_⟩
  exact (((Below.refl _ _).alloc (Nat.le_refl _) _).alloc (by simp) _).alloc (by simp; omega) _

set_option maxHeartbeats 400000 in
theorem eqPair_any (a b c d : Int) (w : World) :
    Calls Try.prog 44 #[.agg #[.int .i64 a, .int .i64 b], .agg #[.int .i64 c, .int .i64 d]] w fun e w' => e = .returned (.bool (eqPairB a b c d)) ∧ Below w.heap.size w w' := by
  go_enter Try.func44, Try.ntmps44
  go_wp2
  all_goals (go_ret; refine ⟨ret_bool ?_, ((Below.refl _ _).alloc (Nat.le_refl _) _).alloc (by simp) _⟩; simp_all [eqPairB])

set_option maxHeartbeats 400000 in
theorem szPairS_any (a : Option Addr) (n cap : Nat) (left : Int) (hn : n ≤ maxLen) (hl : 0 ≤ left) (hl2 : left ≤ 1048576) (w : World) :
    Calls Try.prog 20 #[.slice a n cap, .int .i64 left] w fun e w' => e = .returned (.int .i64 (if (n : Int) ≤ left then left - n else -1)) ∧ w' = w := by
  unfold maxLen at hn
  by_cases h : (n : Int) ≤ left
  · go_enter Try.func20, Try.ntmps20
    go_wp2
    go_ret
    exact ⟨rfl, rfl⟩
  · go_enter Try.func20, Try.ntmps20
    go_wp2
    go_ret
    exact ⟨rfl, rfl⟩

theorem Try.info74 : (Try.prog.info? 74).map (fun i => (i.zero, i.size, i.bytes)) = some (some (.agg #[.int .i64 0, .int .i64 0]), 2, 16) := by kernel_rfl

def filledP (l : List (Int × Int)) (k : Nat) : List Value := flatP (l.take k) ++ List.replicate ((l.length - k) * 2) (.int .i64 0)

theorem madeCells_all (zs : Array Value) (z : Value) (h0 : 0 < zs.size) (h : ∀ i, i < zs.size → zs[i]! = z) (n : Nat) : (madeCells zs n).toList = List.replicate n z := by
  apply List.ext_getElem?
  intro j
  by_cases hj : j < n
  · simp [madeCells, hj]
    exact h _ (Nat.mod_lt _ h0)
  · simp [madeCells, hj]

theorem filledP_length (l : List (Int × Int)) (k : Nat) (hk : k ≤ l.length) : (filledP l k).length = l.length * 2 := by
  simp [filledP, flatP_length]; omega
theorem filledP_full (l : List (Int × Int)) : filledP l l.length = flatP l := by simp [filledP]
theorem take_succP (l : List (Int × Int)) (k : Nat) (hk : k < l.length) : l.take (k + 1) = l.take k ++ [(kOf l k, vOf l k)] := by
  have e : (kOf l k, vOf l k) = l[k] := by simp [kOf, vOf, List.getD, hk]
  rw [List.take_succ_eq_append_getElem hk, e]
theorem filledP_zero (l : List (Int × Int)) (k : Nat) (hk : k < l.length) : (filledP l k)[k * 2]? = some (.int .i64 0) ∧ (filledP l k)[k * 2 + 1]? = some (.int .i64 0) := by
  have hl : (flatP (l.take k)).length = k * 2 := by rw [flatP_length]; simp; omega
  constructor
  · rw [filledP, List.getElem?_append_right (by omega), List.getElem?_replicate_of_lt (by omega)]
  · rw [filledP, List.getElem?_append_right (by omega), List.getElem?_replicate_of_lt (by omega)]
theorem filledP_step (l : List (Int × Int)) (k : Nat) (hk : k < l.length) : ((filledP l k).set (k * 2) (.int .i64 (kOf l k))).set (k * 2 + 1) (.int .i64 (vOf l k)) = filledP l (k + 1) := by
  have hl : (flatP (l.take k)).length = k * 2 := by rw [flatP_length]; simp; omega
  obtain ⟨m, hm⟩ : ∃ m, (l.length - k) * 2 = m + 1 + 1 := ⟨(l.length - k) * 2 - 2, by omega⟩
  have hm2 : (l.length - (k + 1)) * 2 = m := by omega
  rw [filledP, filledP, take_succP l k hk, flatP_append, hm, hm2, List.replicate_succ, List.replicate_succ]
  rw [List.set_append_right _ _ (by omega), hl, Nat.sub_self, List.set_cons_zero, List.set_append_right _ _ (by omega), hl, show k * 2 + 1 - k * 2 = 1 by omega]
  simp [flatP]

set_option maxHeartbeats 1000000 in
theorem toPairS_any (v : Value) (l : List (Int × Int)) (w : World) (hr : Row w v l.length (flatP l)) (hn : l.length ≤ 1048576) :
    Calls Try.prog 25 #[v] w fun e w' => ∃ v', e = .returned v' ∧ w'.ownsRow w.heap.size 74 2 v' l.length (flatP l) ∧ Below w.heap.size w w' := by
  obtain ⟨a, b, off, cap, rfl, hcap, hmax, ha, hk, hv⟩ := hr.pairs
  obtain ⟨i0, hi, hz0, hz1, hz2⟩ := info_parts Try.info74
  unfold maxLen at hmax
  go_enter Try.func25, Try.ntmps25
  go_wp2_with (at_make; refine wpList_make_full _ rfl _ _ 33 rfl w.heap.size 74 i0 _ 2 Try.underlying33 hi hz0 hz1 .i64 .i64 _ _ l.length rfl rfl rfl rfl ?c1 ?c2 ?c3 ?_)
  case c1 => rw [hz2]; omega
  case c2 => unfold maxLen; omega
  case c3 => exact Nat.le_refl _
  intro w0 hown0 hgrow0
  have hb0 : Below w.heap.size w w0 := (Below.refl _ _).grown hgrow0 (Nat.le_refl _) (fun k hk => by cases hk)
  clear hgrow0
  go_wp2
  go_loopw [4] (fun i wr => ∃ k : Nat, k ≤ l.length ∧ i = .int .i64 k ∧ wr.ownsRow w.heap.size 74 2 (.slice (some ⟨w.heap.size, 0, none⟩) l.length l.length) l.length (filledP l k) ∧ Below w.heap.size w wr)
    (fun i _ => l.length - (intOf i).toNat)
  case atStart => exact ⟨0, Nat.zero_le _, rfl, by rw [madeCells_all _ (.int .i64 0) (by decide) (fun i hi => by match i, hi with | 0, _ => rfl | 1, _ => rfl)] at hown0; simpa [filledP, flatP] using hown0, hb0⟩
  case round =>
    obtain ⟨k, hkl, rfl, hown, hb⟩ := hrel
    clear hown0 hb0
    by_cases hlt : k < l.length
    · have hal := ha (by omega)
      subst hal
      have c0 := hk k hlt
      have c1 := hv k hlt
      have hbl := cell_lt c0
      have d0 : wr.cell? ⟨b, off + k * 2, none⟩ = some (.int .i64 (kOf l k)) := (hb.cell (by exact hbl)).trans c0
      have d1 : wr.cell? ⟨b, off + k * 2 + 1, none⟩ = some (.int .i64 (vOf l k)) := (hb.cell (by exact hbl)).trans c1
      clear hk hv c0 c1 ha
      go_wp2_with fail
      refine (toPair_any _ _ _).mono ?_
      rintro e w1 ⟨rfl, hb1⟩
      have own1 := owns_below hown hb1
      have e0 := (own1.cellAt (k * 2) (by omega)).trans (filledP_zero l k hlt).1
      have e1 := (own1.cellAt (k * 2 + 1) (by omega)).trans (filledP_zero l k hlt).2
      have f0 := own1.frozenAt (k * 2)
      have f1 := own1.frozenAt (k * 2 + 1)
      have st := (own1.stored (k * 2) (.int .i64 (kOf l k))).1
      have st2 := (st.stored (k * 2 + 1) (.int .i64 (vOf l k))).1
      rw [filledP_step l k hlt] at st2
      have hb2 : Below w.heap.size w w1 := hb.trans (hb1.mono hb.size)
      clear st hown hb1 d0 d1 own1
      have ST : Hid (((w1.setCell ⟨w.heap.size, k * 2, none⟩ (.int .i64 (kOf l k))).setCell ⟨w.heap.size, k * 2 + 1, none⟩ (.int .i64 (vOf l k))).ownsRow w.heap.size 74 2 (.slice (some ⟨w.heap.size, 0, none⟩) l.length l.length) l.length (filledP l (k + 1))) := st2
      clear st2
      go_wp2
      go_roundw
      case rel => exact ⟨k + 1, by omega, by go_num, ST.out, (hb2.setCell (Nat.le_refl _) _).setCell (Nat.le_refl _) _⟩
      case measure => simp [intOf]; omega
    · go_wp2
      go_ret
      have hkk : k = l.length := by omega
      subst hkk
      rw [filledP_full] at hown
      exact ⟨_, rfl, hown, hb⟩

set_option maxHeartbeats 1000000 in
theorem eqPairS_any (v1 v2 : Value) (l1 l2 : List (Int × Int)) (w : World) (h1 : Row w v1 l1.length (flatP l1)) (h2 : Row w v2 l2.length (flatP l2)) :
    Calls Try.prog 34 #[v1, v2] w fun e w' => e = .returned (.bool (decide (l1 = l2))) ∧ Below w.heap.size w w' := by
  obtain ⟨a, b, off, cap, rfl, hcap, hmax, ha, hk, hv⟩ := h1.pairs
  obtain ⟨a2, b2, off2, cap2, rfl, hcap2, hmax2, ha2, hk2, hv2⟩ := h2.pairs
  unfold maxLen at hmax hmax2
  by_cases hl : l1.length = l2.length
  · have hne : ((l1.length : Int) != (l2.length : Int)) = false := by rw [bne_eq_false_iff_eq]; omega
    have HL : Hid (l1.length = l2.length) := hl
    have hl2 : l1.length ≤ l2.length := by omega
    clear hl
    go_enter Try.func34, Try.ntmps34
    go_wp2
    go_loopw [5] (fun i wr => ∃ k : Nat, k ≤ l1.length ∧ i = .int .i64 k ∧ (∀ i, i < k → kOf l1 i = kOf l2 i ∧ vOf l1 i = vOf l2 i) ∧ Below w.heap.size w wr)
      (fun i _ => l1.length - (intOf i).toNat)
    case atStart => exact ⟨0, Nat.zero_le _, rfl, fun i hi => absurd hi (Nat.not_lt_zero _), Below.refl _ _⟩
    case round =>
      obtain ⟨k, hkl, rfl, hall, hb⟩ := hrel
      have ALL : Hid (∀ i, i < k → kOf l1 i = kOf l2 i ∧ vOf l1 i = vOf l2 i) := hall
      clear hall
      by_cases hlt : k < l1.length
      · have hal := ha (by omega)
        subst hal
        have hal2 := ha2 (by omega)
        subst hal2
        have hlt2 : k < l2.length := by omega
        have d0 : wr.cell? ⟨b, off + k * 2, none⟩ = some (.int .i64 (kOf l1 k)) := (hb.cell (by exact cell_lt (hk k hlt))).trans (hk k hlt)
        have d1 : wr.cell? ⟨b, off + k * 2 + 1, none⟩ = some (.int .i64 (vOf l1 k)) := (hb.cell (by exact cell_lt (hv k hlt))).trans (hv k hlt)
        have d2 : wr.cell? ⟨b2, off2 + k * 2, none⟩ = some (.int .i64 (kOf l2 k)) := (hb.cell (by exact cell_lt (hk2 k (by omega)))).trans (hk2 k (by omega))
        have d3 : wr.cell? ⟨b2, off2 + k * 2 + 1, none⟩ = some (.int .i64 (vOf l2 k)) := (hb.cell (by exact cell_lt (hv2 k (by omega)))).trans (hv2 k (by omega))
        clear hk hv ha hk2 hv2 ha2
        go_wp2_with fail
        cases hq : eqPairB (kOf l1 k) (vOf l1 k) (kOf l2 k) (vOf l2 k)
        · have NE : Hid (decide (l1 = l2) = false) := decide_eq_false (ne_of_eqPairB hq)
          go_region_with (go_at_call 44; refine (eqPair_any _ _ _ _ _).mono ?_; rintro e w1 ⟨rfl, hb1⟩)
          all_goals
            go_wp2
            go_ret
            exact ⟨ret_bool NE.out.symm, hb.drew.trans (hb1.mono hb.size)⟩
        · have EQ : Hid (kOf l1 k = kOf l2 k ∧ vOf l1 k = vOf l2 k) := eqPairB_true hq
          go_region_with (go_at_call 44; refine (eqPair_any _ _ _ _ _).mono ?_; rintro e w1 ⟨rfl, hb1⟩)
          all_goals
            go_wp2
            go_roundw
            case rel => exact ⟨k + 1, by omega, by go_num, fun i hi => if h : i < k then ALL.out i h else by rw [show i = k by omega]; exact EQ.out, hb.drew.trans (hb1.mono hb.size)⟩
            case measure => simp [intOf]; omega
      · go_wp2
        go_ret
        refine ⟨ret_bool ?_, hb⟩
        symm
        rw [decide_eq_true_iff]
        exact ext_of HL.out (fun i hi => ALL.out i (by omega))
  · have hne : ((l1.length : Int) != (l2.length : Int)) = true := by rw [bne_iff_ne]; omega
    go_enter Try.func34, Try.ntmps34
    go_wp2
    go_ret
    refine ⟨ret_bool ?_, Below.refl _ _⟩
    symm
    rw [decide_eq_false_iff_not]
    intro h; exact hl (by rw [h])

end Go.Proofs.Ytmoaccohnmkleaa
