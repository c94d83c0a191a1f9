/-
  Contracts of MapOk, the model's and the program's.
-/
import Derived.Test.YtmoaccohnmkleaaMsgI
import Derived.Test.YtmoaccohnmkleaaPairs
namespace Go.Proofs.Ytmoaccohnmkleaa
open Go.RowKit

theorem okAt_false_k {l : List (Int × Int)} {k : Nat} (h : inB (kOf l k) 0 999 = false) : okAt l k = false := by simp [okAt, h]
theorem okAt_false_v {l : List (Int × Int)} {k : Nat} (h : inB (vOf l k) (-1000000000) 1000000000 = false) : okAt l k = false := by simp [okAt, h]
theorem okAt_zero {l : List (Int × Int)} (h : inB (kOf l 0) 0 999 = true) (h' : inB (vOf l 0) (-1000000000) 1000000000 = true) : okAt l 0 = true := by simp [okAt, h, h']
theorem okAt_succ {l : List (Int × Int)} {k : Nat} (h : inB (kOf l (k + 1)) 0 999 = true) (h' : inB (vOf l (k + 1)) (-1000000000) 1000000000 = true) (hlt : kOf l k < kOf l (k + 1)) : okAt l (k + 1) = true := by simp [okAt, h, h', hlt]
theorem okAt_false_lt {l : List (Int × Int)} {k : Nat} (hlt : kOf l (k + 1) ≤ kOf l k) : okAt l (k + 1) = false := by
  have : ¬ kOf l k < kOf l (k + 1) := by omega
  simp [okAt, this]

set_option maxHeartbeats 1000000 in
theorem specMapOk_any (v : Value) (l : List (Int × Int)) (w : World) (h : Row w v l.length (flatP l)) :
    Calls Try.prog 54 #[v] w fun e w' => e = .returned (.bool (mapOkB l)) ∧ Below w.heap.size w w' := by
  obtain ⟨a, b, off, cap, rfl, hcap, hmax, ha, hk, hv⟩ := h.pairs
  unfold maxLen at hmax
  go_enter Try.func54, Try.ntmps54
  go_wp2
  go_loopw [3] (fun i wr => ∃ k : Nat, k ≤ l.length ∧ i = .int .i64 k ∧ (∀ i, i < k → okAt l i = true) ∧ Below w.heap.size w wr)
    (fun i _ => l.length - (intOf i).toNat)
  case atStart => exact ⟨0, Nat.zero_le _, rfl, fun i hi => absurd hi (Nat.not_lt_zero _), Below.refl _ _⟩
  case round =>
    obtain ⟨k, hkl, rfl, hall, hb⟩ := hrel
    have ALL : Hid (∀ i, i < k → okAt l i = true) := hall
    clear hall
    by_cases hlt : k < l.length
    · have hal := ha (by omega)
      subst hal
      have d0 : wr.cell? ⟨b, off + k * 2, none⟩ = some (.int .i64 (kOf l k)) := (hb.cell (by exact cell_lt (hk k hlt))).trans (hk k hlt)
      have d1 : wr.cell? ⟨b, off + k * 2 + 1, none⟩ = some (.int .i64 (vOf l k)) := (hb.cell (by exact cell_lt (hv k hlt))).trans (hv k hlt)
      cases hK : inB (kOf l k) 0 999
      · have NE : Hid (mapOkB l = false) := mapOkB_false hlt (okAt_false_k hK)
        clear hk hv
        go_wp2_with fail
        go_quiet ((go_at_call 11; exact Calls.quiet_of_same (l1In_any _ _ _ _)))
        go_wp2
        go_ret
        exact ⟨ret_bool NE.out.symm, below_drewN hb _⟩
      · cases hV : inB (vOf l k) (-1000000000) 1000000000
        · have NE : Hid (mapOkB l = false) := mapOkB_false hlt (okAt_false_v hV)
          clear hk hv
          go_wp2_with fail
          go_quiet (first | (go_at_call 11; exact Calls.quiet_of_same (l1In_any _ _ _ _)) | (go_at_call 12; exact Calls.quiet_of_same (l1Value_any _ _)))
          go_wp2
          go_ret
          exact ⟨ret_bool NE.out.symm, below_drewN hb _⟩
        · cases k with
          | zero =>
            have OK : Hid (okAt l 0 = true) := okAt_zero hK hV
            simp only [Nat.zero_mul, Nat.add_zero] at d0 d1
            clear hk hv
            go_wp2_with fail
            go_quiet (first | (go_at_call 11; exact Calls.quiet_of_same (l1In_any _ _ _ _)) | (go_at_call 12; exact Calls.quiet_of_same (l1Value_any _ _)))
            go_wp2
            go_roundw
            case rel => exact ⟨1, by omega, by go_num, fun i hi => by rw [show i = 0 by omega]; exact OK.out, below_drewN hb _⟩
            case measure => simp [intOf]; omega
          | succ k =>
            have hpos : (0 : Int) < ((k + 1 : Nat) : Int) := by omega
            have d2 : wr.cell? ⟨b, off + k * 2, none⟩ = some (.int .i64 (kOf l k)) := (hb.cell (by exact cell_lt (hk k (by omega)))).trans (hk k (by omega))
            clear hk hv
            by_cases hord : kOf l k < kOf l (k + 1)
            · have OK : Hid (okAt l (k + 1) = true) := okAt_succ hK hV hord
              go_wp2_with fail
              go_quiet (first | (go_at_call 11; exact Calls.quiet_of_same (l1In_any _ _ _ _)) | (go_at_call 12; exact Calls.quiet_of_same (l1Value_any _ _)))
              go_wp2
              go_roundw
              case rel => exact ⟨k + 1 + 1, by omega, by go_num, fun i hi => if h : i < k + 1 then ALL.out i h else by rw [show i = k + 1 by omega]; exact OK.out, below_drewN hb _⟩
              case measure => simp [intOf]; omega
            · have NE : Hid (mapOkB l = false) := mapOkB_false hlt (okAt_false_lt (by omega))
              go_wp2_with fail
              go_quiet (first | (go_at_call 11; exact Calls.quiet_of_same (l1In_any _ _ _ _)) | (go_at_call 12; exact Calls.quiet_of_same (l1Value_any _ _)))
              go_wp2
              go_ret
              exact ⟨ret_bool NE.out.symm, below_drewN hb _⟩
    · go_wp2
      go_ret
      exact ⟨ret_bool (mapOkB_true (fun i hi => ALL.out i (by omega))).symm, hb⟩

set_option maxHeartbeats 1000000 in
theorem implMapOk_any (v : Value) (l : List (Int × Int)) (w : World) (h : Row w v l.length (flatP l)) :
    Calls Try.prog 55 #[v] w fun e w' => e = .returned (.bool (mapOkB l)) ∧ Below w.heap.size w w' := by
  obtain ⟨a, b, off, cap, rfl, hcap, hmax, ha, hk, hv⟩ := h.pairs
  unfold maxLen at hmax
  go_enter Try.func55, Try.ntmps55
  go_wp2
  go_loopw [7] (fun i wr => ∃ k : Nat, k ≤ l.length ∧ i = .int .i64 k ∧ (∀ i, i < k → okAt l i = true) ∧ Below w.heap.size w wr)
    (fun i _ => l.length - (intOf i).toNat)
  case atStart => exact ⟨0, Nat.zero_le _, rfl, fun i hi => absurd hi (Nat.not_lt_zero _), Below.refl _ _⟩
  case round =>
    obtain ⟨k, hkl, rfl, hall, hb⟩ := hrel
    have ALL : Hid (∀ i, i < k → okAt l i = true) := hall
    clear hall
    by_cases hlt : k < l.length
    · have hal := ha (by omega)
      subst hal
      have hbl := cell_lt (hk k hlt)
      have d0 : wr.cell? ⟨b, off + k * 2, none⟩ = some (.int .i64 (kOf l k)) := (hb.cell (by exact hbl)).trans (hk k hlt)
      have d1 : wr.cell? ⟨b, off + k * 2 + 1, none⟩ = some (.int .i64 (vOf l k)) := (hb.cell (by exact hbl)).trans (hv k hlt)
      have hb' : ∀ o, Below w.heap.size w (wr.alloc o) := fun o => hb.alloc hb.size o
      cases hK : inB (kOf l k) 0 999
      · have NE : Hid (mapOkB l = false) := mapOkB_false hlt (okAt_false_k hK)
        clear hk hv
        go_wp2_with (go_at_call 60; refine (keyOk_any _ _).mono ?_; rintro e w' ⟨rfl, rfl⟩)
        go_ret
        exact ⟨ret_bool NE.out.symm, hb' _⟩
      · cases hV : inB (vOf l k) (-1000000000) 1000000000
        · have NE : Hid (mapOkB l = false) := mapOkB_false hlt (okAt_false_v hV)
          clear hk hv
          go_wp2_with (first | (go_at_call 60; refine (keyOk_any _ _).mono ?_; rintro e w' ⟨rfl, rfl⟩) | (go_at_call 33; refine (valueOk_any _ _).mono ?_; rintro e w' ⟨rfl, rfl⟩))
          go_ret
          exact ⟨ret_bool NE.out.symm, hb' _⟩
        · cases k with
          | zero =>
            have OK : Hid (okAt l 0 = true) := okAt_zero hK hV
            simp only [Nat.zero_mul, Nat.add_zero] at d0 d1
            clear hk hv
            go_wp2_with (first | (go_at_call 60; refine (keyOk_any _ _).mono ?_; rintro e w' ⟨rfl, rfl⟩) | (go_at_call 33; refine (valueOk_any _ _).mono ?_; rintro e w' ⟨rfl, rfl⟩))
            go_quiet (fail)
            go_wp2
            go_roundw
            case rel => exact ⟨1, by omega, by go_num, fun i hi => by rw [show i = 0 by omega]; exact OK.out, below_drewN (hb' _) _⟩
            case measure => simp [intOf]; omega
          | succ k =>
            have hpos : (0 : Int) < ((k + 1 : Nat) : Int) := by omega
            have hwk : IntKind.i64.wrap (k : Int) = (k : Int) := by rw [IntKind.wrap_i64]; omega
            have hkb : (k : Int) < (l.length : Int) := by omega
            have hbr : b < wr.heap.size := Nat.lt_of_lt_of_le hbl hb.size
            have hbn : ¬ b = wr.heap.size := by omega
            have d2 : wr.cell? ⟨b, off + k * 2, none⟩ = some (.int .i64 (kOf l k)) := (hb.cell (by exact hbl)).trans (hk k (by omega))
            have d2' : ∀ o, (wr.alloc o).cell? ⟨b, off + k * 2, none⟩ = some (.int .i64 (kOf l k)) := fun o => (((Below.refl _ _).alloc (Nat.le_refl _) o).cell (p := ⟨b, off + k * 2, none⟩) hbr).trans d2
            clear hk hv
            by_cases hord : kOf l k < kOf l (k + 1)
            · have OK : Hid (okAt l (k + 1) = true) := okAt_succ hK hV hord
              go_wp2_with (first | (go_at_call 60; refine (keyOk_any _ _).mono ?_; rintro e w' ⟨rfl, rfl⟩) | (go_at_call 33; refine (valueOk_any _ _).mono ?_; rintro e w' ⟨rfl, rfl⟩))
              go_quiet (fail)
              go_wp2
              go_roundw
              case rel => exact ⟨k + 1 + 1, by omega, by go_num, fun i hi => if h : i < k + 1 then ALL.out i h else by rw [show i = k + 1 by omega]; exact OK.out, below_drewN (hb' _) _⟩
              case measure => simp [intOf]; omega
            · have NE : Hid (mapOkB l = false) := mapOkB_false hlt (okAt_false_lt (by omega))
              go_wp2_with (first | (go_at_call 60; refine (keyOk_any _ _).mono ?_; rintro e w' ⟨rfl, rfl⟩) | (go_at_call 33; refine (valueOk_any _ _).mono ?_; rintro e w' ⟨rfl, rfl⟩))
              go_quiet (fail)
              go_wp2
              go_ret
              exact ⟨ret_bool NE.out.symm, below_drewN (hb' _) _⟩
    · go_wp2
      go_ret
      exact ⟨ret_bool (mapOkB_true (fun i hi => ALL.out i (by omega))).symm, hb⟩

end Go.Proofs.Ytmoaccohnmkleaa
