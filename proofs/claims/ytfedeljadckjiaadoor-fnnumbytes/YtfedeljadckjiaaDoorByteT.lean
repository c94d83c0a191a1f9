/-
  Rows of bytes: appended to one by one, held against each other, marked.
-/
import Derived.Test.YtfedeljadckjiaaDoorAppend
import Derived.Test.YtfedeljadckjiaaDoorNumMath
namespace Go.Proofs.YtfedeljadckjiaaDoor
open Go.RowKit

theorem Tryd.infoByte : (Tryd.prog.info? 5).map (fun i => (i.zero, i.size, i.bytes)) = some (some (.int .u8 0), 1, 1) := by kernel_rfl
def flatB (l : List Int) : List Value := l.map (Value.int .u8)
theorem flatB_length (l : List Int) : (flatB l).length = l.length := by simp [flatB]
theorem flatB_append (l m : List Int) : flatB (l ++ m) = flatB l ++ flatB m := by simp [flatB]
theorem flatB_snoc (l : List Int) (x : Int) : flatB l ++ [.int .u8 x] = flatB (l ++ [x]) := by simp [flatB]
theorem flatB_one (l : List Int) : ∀ y ∈ flatB l, y.oneCell' = true := by
  intro v hv
  obtain ⟨z, _, rfl⟩ := List.mem_map.1 hv
  rfl
theorem one_one (x : Int) : ∀ u ∈ [Value.int .u8 x], u.oneCell' = true := by intro u hu; simp at hu; subst hu; rfl
def byOf (l : List Int) (i : Nat) : Int := l.getD i 0
theorem flatB_at (l : List Int) (i : Nat) (h : i < l.length) : (flatB l)[i]? = some (.int .u8 (byOf l i)) := by
  simp [flatB, byOf, List.getD, h]
def inByte (l : List Int) : Prop := ∀ b ∈ l, 0 ≤ b ∧ b ≤ 255
theorem inByte.at {l : List Int} (h : inByte l) (i : Nat) : 0 ≤ byOf l i ∧ byOf l i ≤ 255 := by
  by_cases hi : i < l.length
  · have := h (l[i]) (List.getElem_mem hi)
    simpa [byOf, List.getD, hi] using this
  · simp [byOf, List.getD, List.getElem?_eq_none (Nat.le_of_not_lt hi)]
theorem Row.bytes {w : World} {v : Value} {l : List Int} (h : Row w v l.length (flatB l)) :
    ∃ (a : Option Addr) (b off cap : Nat), v = .slice a l.length cap ∧ l.length ≤ cap ∧ cap ≤ maxLen ∧ (0 < l.length → a = some ⟨b, off, none⟩) ∧
      (∀ i, i < l.length → w.cell? ⟨b, off + i, none⟩ = some (.int .u8 (byOf l i))) := by
  obtain ⟨a, b, off, cap, h1, h2, h3, h4, h5, _⟩ := h
  exact ⟨a, b, off, cap, h1, h2, h3, h4, fun i hi => h5 _ _ (flatB_at l i hi)⟩
theorem ext_bytes {l1 l2 : List Int} (hl : l1.length = l2.length) (h : ∀ i, i < l1.length → byOf l1 i = byOf l2 i) : l1 = l2 := by
  apply List.ext_getElem hl
  intro i h1 h2
  have := h i h1
  simpa [byOf, List.getD, h1, h2] using this

set_option maxHeartbeats 1000000 in
theorem eqByteS_any (v1 v2 : Value) (l1 l2 : List Int) (w : World) (h1 : Row w v1 l1.length (flatB l1)) (h2 : Row w v2 l2.length (flatB l2)) :
    Calls Tryd.prog 26 #[v1, v2] w fun e w' => e = .returned (.bool (decide (l1 = l2))) ∧ Below w.heap.size w w' := by
  obtain ⟨a, b, off, cap, rfl, hcap, hmax, ha, hk⟩ := h1.bytes
  obtain ⟨a2, b2, off2, cap2, rfl, hcap2, hmax2, ha2, hk2⟩ := h2.bytes
  unfold maxLen at hmax hmax2
  clear h1 h2
  by_cases hl : l1.length = l2.length
  · have hne : ((l1.length : Int) != (l2.length : Int)) = false := by rw [bne_eq_false_iff_eq]; omega
    have HL : Hid (l1.length = l2.length) := hl
    have hl2 : l1.length ≤ l2.length := by omega
    clear hl
    go_enter Tryd.func26, Tryd.ntmps26
    go_wp2
    go_loopw [5] (fun i wr => ∃ k : Nat, k ≤ l1.length ∧ i = .int .i64 k ∧ (∀ i, i < k → byOf l1 i = byOf l2 i) ∧ Below w.heap.size w wr)
      (fun i _ => l1.length - (intOf i).toNat)
    case atStart => exact ⟨0, Nat.zero_le _, rfl, fun i hi => absurd hi (Nat.not_lt_zero _), Below.refl _ _⟩
    case round =>
      obtain ⟨k, hkl, rfl, hall, hb⟩ := hrel
      have ALL : Hid (∀ i, i < k → byOf l1 i = byOf l2 i) := hall
      clear hall
      by_cases hlt : k < l1.length
      · have hal := ha (by omega)
        subst hal
        have hal2 := ha2 (by omega)
        subst hal2
        have hlt2 : k < l2.length := by omega
        have d0 : wr.cell? ⟨b, off + k, none⟩ = some (.int .u8 (byOf l1 k)) := (hb.cell (by exact cell_lt (hk k hlt))).trans (hk k hlt)
        have d2 : wr.cell? ⟨b2, off2 + k, none⟩ = some (.int .u8 (byOf l2 k)) := (hb.cell (by exact cell_lt (hk2 k (by omega)))).trans (hk2 k (by omega))
        clear hk ha hk2 ha2
        have B0 : Hid _ := hb
        clear hb
        by_cases hq : byOf l1 k = byOf l2 k
        · have EQ : Hid (byOf l1 k = byOf l2 k) := hq
          rw [← hq] at d2
          clear hq
          generalize byOf l1 k = y at d0 d2
          have hne2 : (y != y) = false := by simp
          go_wp2
          go_region
          all_goals
            go_wp2
            go_roundw
            case rel => exact ⟨k + 1, by omega, by go_num, fun i hi => if h : i < k then ALL.out i h else by rw [show i = k by omega]; exact EQ.out, B0.out.drew⟩
            case measure => simp [intOf]; omega
        · have NE : Hid (decide (l1 = l2) = false) := decide_eq_false (fun e => hq (by rw [e]))
          generalize byOf l1 k = y at d0 hq
          generalize byOf l2 k = z at d2 hq
          have hne2 : (y != z) = true := by rw [bne_iff_ne]; exact hq
          clear hq
          go_wp2
          go_region
          all_goals
            go_wp2
            go_ret
            exact ⟨ret_bool NE.out.symm, B0.out.drew⟩
      · go_wp2
        go_ret
        refine ⟨ret_bool ?_, hb⟩
        symm
        rw [decide_eq_true_iff]
        exact ext_bytes HL.out (fun i hi => ALL.out i (by omega))
  · have hne : ((l1.length : Int) != (l2.length : Int)) = true := by rw [bne_iff_ne]; omega
    go_enter Tryd.func26, Tryd.ntmps26
    go_wp2
    go_ret
    refine ⟨ret_bool ?_, Below.refl _ _⟩
    symm
    rw [decide_eq_false_iff_not]
    intro h; exact hl (by rw [h])

end Go.Proofs.YtfedeljadckjiaaDoor
