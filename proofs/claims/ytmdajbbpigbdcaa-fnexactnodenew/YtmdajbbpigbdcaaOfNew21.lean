/-
  The model's l9Ones: a list of so many of one number.
-/
import Derived.Test.YtmdajbbpigbdcaaOfNew7
import Derived.Test.YtmdajbbpigbdcaaOfNew2
import Derived.Test.YtmdajbbpigbdcaaOfNew18
namespace Go.Proofs.Ytmdajbbpigbdcaa
set_option maxRecDepth 100000
set_option maxHeartbeats 8000000
section
open Go.RowKit

theorem row_new1 (w : World) (x : Value) (t : TypeId) : Row (w.alloc (.cells #[x] t)) (.slice (some ⟨w.heap.size, 0, none⟩) 1 1) 1 [x] := by
 have h : (w.alloc (.cells #[x] t)).heap[w.heap.size]? = some (.cells #[x] t (0, 0)) := heap_alloc_new w _
 refine ⟨some ⟨w.heap.size, 0, none⟩, w.heap.size, 0, 1, rfl, Nat.le_refl _, by unfold maxLen; omega, fun _ => rfl, fun j u hj => ?_, fun h => by cases h⟩
 rw [Nat.zero_add, cell_of_row _ _ j _ t (0, 0) h]
 simpa using hj
theorem rep_succ (k : Nat) (x : Int) : flatI (List.replicate k x) ++ [.int .i64 x] = flatI (List.replicate (k + 1) x) := by
 rw [List.replicate_succ']
 simp [flatI]

theorem l9Ones_any (n : Nat) (x : Int) (w : World) (hn : n ≤ 1048576) :
  Calls Try.prog 17 #[.int .i64 n, .int .i64 x] w fun e w' => ∃ v, e = .returned v ∧ OwnE w' w.heap.size 3 1 v n (flatI (List.replicate n x)) ∧ Below w.heap.size w w' := by
 obtain ⟨i0, hi0, hz0, hz1, hz2⟩ := info_parts Try.info3
 have A1 : Hid (Below w.heap.size w (w.alloc (.cells #[] 3))) := (Below.refl _ _).alloc (Nat.le_refl _) _
 go_enter Try.func17, Try.ntmps17
 go_wp2
 generalize hW : w.alloc (.cells #[] 3) = W at *
 clear hW
 go_loopw [5, 6] (fun out i wr => ∃ (j : Nat), j ≤ n ∧ i = .int .i64 j ∧ Hid (OwnE wr w.heap.size 3 1 out j (flatI (List.replicate j x)) ∧ Below w.heap.size w wr))
  (fun _ i _ => n - (intOf i).toNat)
 case atStart => exact ⟨0, Nat.zero_le _, rfl, OwnE.zero _ _ _ _ _, A1.out⟩
 case round =>
  obtain ⟨j, hj, rfl, HO⟩ := hrel
  by_cases hlt : j < n
  ·have hR : Hid (j + 1 ≤ maxLen ∧ (j + 1) * 8 ≤ 140737488355328) := by unfold maxLen; exact ⟨by omega, by omega⟩
   go_wp2_with (at_builtin; refine list_appE (wr.alloc (.cells #[.int .i64 x] 3)) rfl _ _ 26 rfl w.heap.size 3 i0 _ 1 8 Try.underlying26 hi0 hz0 hz1 hz2 rfl (by decide) _ j (flatI (List.replicate j x)) rfl (HO.out.1.below ((Below.refl _ _).alloc (Nat.le_refl _) _)) (.slice (some ⟨wr.heap.size, 0, none⟩) 1 1) 1 [.int .i64 x] rfl (row_new1 _ _ _) rfl (fun y hy => by simp at hy; subst hy; rfl) hR.out.1 hR.out.2 (Nat.le_trans HO.out.2.size (by simp)) ?_)
   rintro v2 w2 ⟨o1, o2, o3, o4⟩
   rw [rep_succ] at o1
   have B2 : Hid (Below w.heap.size w w2) := (HO.out.2.trans ((Below.refl _ _).alloc HO.out.2.size _)).trans o3
   have O2 : Hid _ := o1
   clear o1 o2 o3 o4 HO hR
   go_wp2
   go_roundw
   case rel => exact ⟨j + 1, by omega, by go_num, O2.out, B2.out⟩
   case measure => simp [intOf]; omega
  ·have hjn : j = n := by omega
   subst hjn
   go_wp2
   go_ret
   exact ⟨_, rfl, HO.out.1, HO.out.2⟩
end
end Go.Proofs.Ytmdajbbpigbdcaa
