/-
  The contract of the model's MapAll.
-/
import Derived.Test.YtccdleafkhnfmaaGreatSpecMap
namespace Go.Proofs.YtccdleafkhnfmaaGreat
open Go.RowKit

theorem allL_succ (l : PL) (ms : ML) (k : Nat) (h : k < ms.length) : allL l (ms.take (k + 1)) = doL (allL l (ms.take k)) (mO ms k, mK ms k, mV ms k) := by
  rw [take_succM ms k h, allL, List.foldl_append]; rfl

set_option maxRecDepth 100000 in
set_option maxHeartbeats 2000000 in
theorem specMapAll_any (va vm : Value) (l : PL) (ms : ML) (w : World) (h : Row w va l.length (flatP l)) (hm : Row w vm ms.length (flatM ms)) (hn : l.length + ms.length ≤ 2097152) :
    Calls Tryz.prog 40 #[va, vm] w fun e w' => ∃ v', e = .returned v' ∧ w'.ownsRow w.heap.size 53 2 v' (allL l ms).length (flatP (allL l ms)) ∧ Below w.heap.size w w' := by
  obtain ⟨i0, hi, hz0, hz1, hz2⟩ := info_parts Tryz.info53
  have RW : Hid (Row w va l.length (flatP l)) := h
  have HR : Hid _ := room_row (n := l.length) (bytes := 16) (by omega) (by decide)
  have Hb : Hid (w.heap.size ≤ (w.alloc (.cells #[] 53)).heap.size) := by show _ ≤ _; simp
  obtain ⟨a, b, off, cap, rfl, hcap, hmax, ha, ho, hk, hv⟩ := hm.msgs
  unfold maxLen at hmax
  clear h
  go_enter Tryz.func40, Tryz.ntmps40
  go_wp2_with (at_builtin; refine app_row (w.alloc (.cells #[] 53)) rfl _ _ 33 rfl w.heap.size 53 i0 _ 2 16 Tryz.underlying33 hi hz0 hz1 hz2 rfl (by decide) (.slice (some ⟨w.heap.size, 0, none⟩) 0 0) 0 [] rfl (empty_own w w.heap.size 53 2 (Nat.le_refl _)) va l.length (flatP l) rfl (RW.out.below ((Below.refl _ _).alloc (Nat.le_refl _) _)) (flatP_length _) (flatP_one _) HR.out.1 HR.out.2 Hb.out ?_)
  intro v0 w0 ho0 _ hb0
  have B0 : Below w.heap.size w w0 := ((Below.refl _ _).alloc (Nat.le_refl _) _).trans hb0
  clear hb0
  go_wp2
  go_loopw [5, 6] (fun out i wr => ∃ k : Nat, k ≤ ms.length ∧ i = .int .i64 k ∧ wr.ownsRow w.heap.size 53 2 out (allL l (ms.take k)).length (flatP (allL l (ms.take k))) ∧ Below w.heap.size w wr)
    (fun _ i _ => ms.length - (intOf i).toNat)
  case atStart => exact ⟨0, Nat.zero_le _, rfl, ho0, B0⟩
  case round =>
    obtain ⟨k, hkl, rfl, hown, hb⟩ := hrel
    by_cases hlt : k < ms.length
    · have hal := ha (by omega)
      subst hal
      have d0 := (hb.cell (by exact cell_lt (ho k hlt))).trans (ho k hlt)
      have d1 := (hb.cell (by exact cell_lt (hk k hlt))).trans (hk k hlt)
      have d2 := (hb.cell (by exact cell_lt (hv k hlt))).trans (hv k hlt)
      have DS : Hid _ := allL_succ l ms k hlt
      have hal := allL_length l (ms.take k)
      have htl : (ms.take k).length ≤ k := List.length_take_le _ _
      generalize hA : allL l (ms.take k) = A at *
      clear hA ho hk hv ho0 B0
      have OW : Hid _ := hown
      have RA : Hid (Row wr u5 A.length (flatP A)) := Row.of_owns hown
      clear hown
      go_wp2_with fail
      refine (specMapDo_any u5 A _ _ _ wr RA.out (by omega)).mono ?_
      rintro e w1 ⟨v1, rfl, o1, b1⟩
      go_wp2
      go_roundw
      case rel => exact ⟨k + 1, by omega, by go_num, by rw [DS.out]; exact owns_mono o1 hb.size, hb.trans (b1.mono hb.size)⟩
      case measure => simp [intOf]; omega
    · go_wp2
      go_ret
      have hkk : k = ms.length := by omega
      subst hkk
      rw [List.take_of_length_le (Nat.le_refl _)] at hown
      exact ⟨_, rfl, hown, hb⟩

end Go.Proofs.YtccdleafkhnfmaaGreat
