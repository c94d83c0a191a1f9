/-
  Contracts of the model's Shrink and of what it asks.
-/
import Derived.Test.YtmpiijphpnjlnaaPart4
import Derived.Test.YtmpiijphpnjlnaaPart5
import Derived.Test.YtmpiijphpnjlnaaDrawC
import Derived.Test.YtmpiijphpnjlnaaBel
namespace Go.Proofs.Ytmpiijphpnjlnaa
open Go.RowKit

set_option maxHeartbeats 1000000 in
theorem l1First_any (v : Value) (A : ML) (x : Int) (w : World) (h : Row w v A.length (flatM A)) :
    Calls Try.prog 141 #[v, .int .i64 x] w fun e w' => e = .returned (.int .i64 (firstI A x)) ∧ w' = w := by
  obtain ⟨a, b, off, cap, rfl, hcap, hmax, ha, ho, hk, hv⟩ := h.msgs
  unfold maxLen at hmax
  go_enter Try.func141, Try.ntmps141
  go_wp2
  go_loop [5] (fun i => ∃ k : Nat, k ≤ A.length ∧ i = .int .i64 k ∧ Hid (∀ j, j < k → mK A j ≠ x)) (fun i => A.length - (intOf i).toNat)
  case atStart => exact ⟨0, Nat.zero_le _, rfl, fun j hj => absurd hj (Nat.not_lt_zero _)⟩
  case round =>
    obtain ⟨k, hkl, rfl, hall⟩ := hrel
    by_cases hlt : k < A.length
    · have hal := ha (by omega)
      subst hal
      have d1 := hk k hlt
      by_cases he : mK A k = x
      · have hb : (mK A k == x) = true := by rw [beq_iff_eq]; exact he
        have E : Hid (firstI A x = k) := firstI_at hlt he hall.out
        clear ho hk hv ha he
        go_wp2
        go_ret
        exact ⟨ret_int E.out.symm, rfl⟩
      · have hb : (mK A k == x) = false := by rw [beq_eq_false_iff_ne]; exact he
        have E : Hid (mK A k ≠ x) := he
        clear ho hk hv ha he
        go_wp2
        go_round
        case rel => exact ⟨k + 1, by omega, by go_num, fun j hj => if h : j < k then hall.out j h else by rw [show j = k by omega]; exact E.out⟩
        case measure => simp [intOf]; omega
    · have E : Hid (firstI A x = -1) := firstI_none (fun m hm => by
        obtain ⟨j, hj, rfl⟩ := List.getElem_of_mem hm
        rw [ml_at A j hj]
        exact hall.out j (by omega))
      clear ho hk hv ha
      go_wp2
      go_ret
      exact ⟨ret_int E.out.symm, rfl⟩

theorem specMsgOk_is {o k v : Int} {r : Bool} (q : msgOkB o k v = r) (w : World) :
    Calls Try.prog 84 #[.agg #[.int .i64 o, .int .i64 k, .int .i64 v]] w fun e w' => e = .returned (.bool r) ∧ Below w.heap.size w w' := q ▸ specMsgOk_any o k v w

theorem drop_consM (ms : ML) (k : Nat) (h : k < ms.length) : ms.drop k = (mO ms k, mK ms k, mV ms k) :: ms.drop (k + 1) := by
  rw [List.drop_eq_getElem_cons h, ml_at ms k h]
theorem over_step (ms : ML) (k : Nat) (h : k < ms.length) (x : Int) : overB (ms.drop k) x = ((msgOkB (mO ms k) (mK ms k) (mV ms k) && ((mK ms k == x) && ((mO ms k == 1) || (mO ms k == 2)))) || overB (ms.drop (k + 1)) x) := by
  rw [drop_consM ms k h, overB, List.any_cons]; rfl

set_option maxRecDepth 100000 in
set_option maxHeartbeats 2000000 in
theorem l1Over_any (v : Value) (ms : ML) (i : Nat) (hi : i < ms.length) (w : World) (h : Row w v ms.length (flatM ms)) :
    Calls Try.prog 140 #[v, .int .i64 i] w fun e w' => e = .returned (.bool (overB (ms.drop (i + 1)) (mK ms i))) ∧ Below w.heap.size w w' := by
  obtain ⟨a, b, off, cap, rfl, hcap, hmax, ha, ho, hk, hv⟩ := h.msgs
  unfold maxLen at hmax
  have hal := ha (by omega)
  subst hal
  clear ha h
  have c1 := hk i hi
  go_enter Try.func140, Try.ntmps140
  go_wp2
  go_loopw [5] (fun j wr => ∃ k : Nat, k ≤ ms.length ∧ j = .int .i64 k ∧ Hid (overB (ms.drop (i + 1)) (mK ms i) = overB (ms.drop k) (mK ms i)) ∧ Hid (Below w.heap.size w wr)) (fun j _ => ms.length - (intOf j).toNat)
  case atStart => exact ⟨i + 1, by omega, by go_num, rfl, Below.refl _ _⟩
  case round =>
    obtain ⟨k, hkl, rfl, hov, hb⟩ := hrel
    by_cases hlt : k < ms.length
    · have STEP : Hid _ := over_step ms k hlt (mK ms i)
      have e0 : ∀ u : Bel w, u.now.cell? ⟨b, off + k * 3, none⟩ = some (.int .i64 (mO ms k)) := fun u => (u.bel.cell (by exact cell_lt (ho k hlt))).trans (ho k hlt)
      have e1 : ∀ u : Bel w, u.now.cell? ⟨b, off + k * 3 + 1, none⟩ = some (.int .i64 (mK ms k)) := fun u => (u.bel.cell (by exact cell_lt (hk k hlt))).trans (hk k hlt)
      have e2 : ∀ u : Bel w, u.now.cell? ⟨b, off + k * 3 + 2, none⟩ = some (.int .i64 (mV ms k)) := fun u => (u.bel.cell (by exact cell_lt (hv k hlt))).trans (hv k hlt)
      have e3 : ∀ u : Bel w, u.now.cell? ⟨b, off + i * 3 + 1, none⟩ = some (.int .i64 (mK ms i)) := fun u => (u.bel.cell (by exact cell_lt c1)).trans c1
      clear ho hk hv c1
      generalize mO ms k = x0 at *
      generalize mK ms k = x1 at *
      generalize mV ms k = x2 at *
      generalize hy1 : mK ms i = y1 at *
      have HY : Hid _ := hy1
      clear hy1
      have hki : (k : Int) < ms.length := by omega
      have hii : (i : Int) < ms.length := by omega
      rcases (show msgOkB x0 x1 x2 = false ∨ (msgOkB x0 x1 x2 = true ∧ (x1 == y1) = false) ∨ (msgOkB x0 x1 x2 = true ∧ (x1 == y1) = true ∧ (x0 == 1) = true) ∨ (msgOkB x0 x1 x2 = true ∧ (x1 == y1) = true ∧ (x0 == 1) = false ∧ (x0 == 2) = true) ∨ (msgOkB x0 x1 x2 = true ∧ (x1 == y1) = true ∧ (x0 == 1) = false ∧ (x0 == 2) = false) from by
        cases msgOkB x0 x1 x2 <;> cases (x1 == y1) <;> cases (x0 == 1) <;> cases (x0 == 2) <;> simp) with q | ⟨q, q1⟩ | ⟨q, q1, q2⟩ | ⟨q, q1, q2, q3⟩ | ⟨q, q1, q2, q3⟩
      · have SP := STEP.out
        rw [q, Bool.false_and, Bool.false_or] at SP
        have NX : Hid _ := hov.out.trans SP
        clear SP
        go_wp2_with fail
        have _some := Bel.some w
        refine wp_region_bel (w0 := w) (by kernel_rfl) (by kernel_rfl) hb.out ?_
        repeat (go_big_quiet_step ((go_at_call 84; exact Calls.bel (specMsgOk_is q _))))
        refine wpQuiet_nil ?_
        rintro _ ⟨u, rfl⟩
        have FB : Hid (Below w.heap.size w u.now) := u.bel
        go_wp2
        go_roundw
        case rel => exact ⟨k + 1, by omega, by go_num, NX, FB⟩
        case measure => simp [intOf]; omega
      · have SP := STEP.out
        rw [q, q1, Bool.true_and, Bool.false_and, Bool.false_or] at SP
        have NX : Hid _ := hov.out.trans SP
        clear SP
        go_wp2_with fail
        have _some := Bel.some w
        refine wp_region_bel (w0 := w) (by kernel_rfl) (by kernel_rfl) hb.out ?_
        repeat (go_big_quiet_step ((go_at_call 84; exact Calls.bel (specMsgOk_is q _))))
        refine wpQuiet_nil ?_
        rintro _ ⟨u, rfl⟩
        have FB : Hid (Below w.heap.size w u.now) := u.bel
        go_wp2
        go_roundw
        case rel => exact ⟨k + 1, by omega, by go_num, NX, FB⟩
        case measure => simp [intOf]; omega
      · have SP := STEP.out
        rw [q, q1, q2, Bool.true_and, Bool.true_and, Bool.true_or, Bool.true_or] at SP
        have NX : Hid _ := hov.out.trans SP
        clear SP
        go_wp2_with fail
        have _some := Bel.some w
        refine wp_region_bel (w0 := w) (by kernel_rfl) (by kernel_rfl) hb.out ?_
        repeat (go_big_quiet_step ((go_at_call 84; exact Calls.bel (specMsgOk_is q _))))
        refine wpQuiet_nil ?_
        rintro _ ⟨u, rfl⟩
        have FB : Hid (Below w.heap.size w u.now) := u.bel
        go_wp2
        go_ret
        exact ⟨ret_bool (by rw [HY.out]; exact NX.out.symm), FB.out⟩
      · have SP := STEP.out
        rw [q, q1, q2, q3, Bool.true_and, Bool.true_and, Bool.false_or, Bool.true_or] at SP
        have NX : Hid _ := hov.out.trans SP
        clear SP
        go_wp2_with fail
        have _some := Bel.some w
        refine wp_region_bel (w0 := w) (by kernel_rfl) (by kernel_rfl) hb.out ?_
        repeat (go_big_quiet_step ((go_at_call 84; exact Calls.bel (specMsgOk_is q _))))
        refine wpQuiet_nil ?_
        rintro _ ⟨u, rfl⟩
        have FB : Hid (Below w.heap.size w u.now) := u.bel
        go_wp2
        go_ret
        exact ⟨ret_bool (by rw [HY.out]; exact NX.out.symm), FB.out⟩
      · have SP := STEP.out
        rw [q, q1, q2, q3, Bool.true_and, Bool.true_and, Bool.false_or, Bool.false_or] at SP
        have NX : Hid _ := hov.out.trans SP
        clear SP
        go_wp2_with fail
        have _some := Bel.some w
        refine wp_region_bel (w0 := w) (by kernel_rfl) (by kernel_rfl) hb.out ?_
        repeat (go_big_quiet_step ((go_at_call 84; exact Calls.bel (specMsgOk_is q _))))
        refine wpQuiet_nil ?_
        rintro _ ⟨u, rfl⟩
        have FB : Hid (Below w.heap.size w u.now) := u.bel
        go_wp2
        go_roundw
        case rel => exact ⟨k + 1, by omega, by go_num, NX, FB⟩
        case measure => simp [intOf]; omega
    · have hkk : k = ms.length := by omega
      subst hkk
      have NX : Hid (overB (ms.drop (i + 1)) (mK ms i) = false) := by rw [hov.out, List.drop_length]; rfl
      clear ho hk hv c1
      go_wp2
      go_ret
      exact ⟨ret_bool NX.out.symm, hb.out⟩

end Go.Proofs.Ytmpiijphpnjlnaa
