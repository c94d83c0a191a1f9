/-
  The program's sameTerms, putFrom, LogPut.
-/
import Derived.Test.YteegcblndbljlaaLogPutM
import Derived.Test.YteegcblndbljlaaLogCut
import Derived.Test.YteegcblndbljlaaLogOkI
import Derived.Deep.RegionHeld3
namespace Go.Proofs.Yteegcblndbljlaa
open Go.RowKit

theorem run_min_i64 {P : Program} (ats : Array TypeId) (ty : TypeId) (a b : Nat) (w : World) : (Builtin.min_ ats ty #[.int .i64 (a : Int), .int .i64 (b : Int)]).run P w = .ok (.int .i64 ((Nat.min a b : Nat) : Int)) w := by
  unfold Builtin.min_ Builtin.min2
  by_cases h : (a : Int) < (b : Int)
  · have : Nat.min a b = a := Nat.min_eq_left (by omega)
    rw [this]
    simp
    intro _; omega
  · have : Nat.min a b = b := Nat.min_eq_right (by omega)
    rw [this]
    simp
    intro _; omega

set_option maxRecDepth 100000 in
set_option maxHeartbeats 4000000 in
theorem sameTerms_any (v v2 : Value) (l l2 : EL) (w : World) (h : Row w v l.length (flatE l)) (h2 : Row w v2 l2.length (flatE l2)) :
    Calls Try.prog 70 #[v, v2] w fun e w' => ∃ s : Nat, e = .returned (.int .i64 s) ∧ SameP l l2 s ∧ Below w.heap.size w w' := by
  obtain ⟨a, b, off, cap, rfl, hcap, hmax, ha, hx0, -⟩ := h.ents
  obtain ⟨a2, b2, off2, cap2, rfl, hcap2, hmax2, ha2, hy0, -⟩ := h2.ents
  unfold maxLen at hmax hmax2
  clear h h2
  have hmin : ∀ (ats : Array TypeId) (ty : TypeId) (u : World), (Builtin.min_ ats ty #[.int .i64 (l.length : Int), .int .i64 (l2.length : Int)]).run Try.prog u = .ok (.int .i64 ((Nat.min l.length l2.length : Nat) : Int)) u := fun ats ty u => run_min_i64 ats ty _ _ u
  have M1 : Nat.min l.length l2.length ≤ l.length := Nat.min_le_left _ _
  have M2 : Nat.min l.length l2.length ≤ l2.length := Nat.min_le_right _ _
  have M3 : Hid (∀ s, s < l.length → s < l2.length → s < Nat.min l.length l2.length) := fun s h1 h2 => Nat.lt_min.2 ⟨h1, h2⟩
  generalize Nat.min l.length l2.length = mn at *
  go_enter Try.func70, Try.ntmps70
  go_wp2
  go_loopw [5] (fun c wr => ∃ s : Nat, s ≤ mn ∧ c = .int .i64 s ∧ Hid (∀ i, i < s → eT l i = eT l2 i) ∧ Hid (Below w.heap.size w wr)) (fun c _ => mn - (intOf c).toNat)
  case atStart => exact ⟨0, Nat.zero_le _, rfl, fun i hi => absurd hi (Nat.not_lt_zero _), Below.refl _ _⟩
  case round =>
    obtain ⟨s, hsm, rfl, ALL, HB⟩ := hrel
    by_cases hlt : s < mn
    · have hal := ha (by omega)
      subst hal
      have hal2 := ha2 (by omega)
      subst hal2
      have hs1 : s < l.length := by omega
      have hs2 : s < l2.length := by omega
      have hs3 : (s : Int) < (mn : Int) := by omega
      have d0 : wr.cell? ⟨b, off + s * 6, none⟩ = some (.int .i64 (eT l s)) := (HB.out.cell (by exact cell_lt (hx0 s hs1))).trans (hx0 s hs1)
      have d1 : wr.cell? ⟨b2, off2 + s * 6, none⟩ = some (.int .i64 (eT l2 s)) := (HB.out.cell (by exact cell_lt (hy0 s hs2))).trans (hy0 s hs2)
      clear hx0 hy0
      generalize hq : (eT l s == eT l2 s) = q
      have HQ : Hid _ := hq
      have S0 : wr.drew.cell? ⟨b, off + s * 6, none⟩ = some (.int .i64 (eT l s)) ∧ wr.drew.cell? ⟨b2, off2 + s * 6, none⟩ = some (.int .i64 (eT l2 s)) := ⟨d0, d1⟩
      go_wp2_with fail
      refine wp_region_held_drew (S := fun u => u.cell? ⟨b, off + s * 6, none⟩ = some (.int .i64 (eT l s)) ∧ u.cell? ⟨b2, off2 + s * 6, none⟩ = some (.int .i64 (eT l2 s))) (by kernel_rfl) S0 (fun hH => ?_)
      refine wpAnyH_take (i := 0) (oi := ⟨_, _, _, _, _, _⟩) (v := ?_) rfl (by kernel_rfl) (by kernel_rfl) (by kernel_rfl) (fun _ _ _ h => h) (Or.inl ⟨by rfl, ?_⟩) (by assumption) ?_
      rotate_left
      · ((intro w hSw; (try dsimp only at hSw); go_simp); (try with_reducible rfl))
      try simp only [Act.put, List.setIfInBounds_toArray, List.set_cons_zero, List.set_cons_succ]
      refine wpAnyH_take (i := 1) (oi := ⟨_, _, _, _, _, _⟩) (v := ?_) rfl (by kernel_rfl) (by kernel_rfl) (by kernel_rfl) (fun _ _ _ h => h) (Or.inl ⟨by rfl, ?_⟩) (by assumption) ?_
      rotate_left
      · ((intro w hSw; (try dsimp only at hSw); go_simp); (try with_reducible rfl))
      try simp only [Act.put, List.setIfInBounds_toArray, List.set_cons_zero, List.set_cons_succ]
      refine wpAnyH_take (i := 2) (oi := ⟨_, _, _, _, _, _⟩) (v := ?_) rfl (by kernel_rfl) (by kernel_rfl) (by kernel_rfl) (fun _ _ _ h => h) (Or.inl ⟨by rfl, ?_⟩) (by assumption) ?_
      rotate_left
      · ((intro w hSw; (try dsimp only at hSw); go_simp); (try with_reducible rfl))
      try simp only [Act.put, List.setIfInBounds_toArray, List.set_cons_zero, List.set_cons_succ]
      refine wpAnyH_take (i := 3) (oi := ⟨_, _, _, _, _, _⟩) (v := ?_) rfl (by kernel_rfl) (by kernel_rfl) (by kernel_rfl) (fun _ _ _ h => h) (Or.inl ⟨by rfl, ?_⟩) (by assumption) ?_
      rotate_left
      · ((intro w hSw; (try dsimp only at hSw); go_simp); (try with_reducible rfl))
      try simp only [Act.put, List.setIfInBounds_toArray, List.set_cons_zero, List.set_cons_succ]
      refine wpAnyH_take (i := 4) (oi := ⟨_, _, _, _, _, _⟩) (v := ?_) rfl (by kernel_rfl) (by kernel_rfl) (by kernel_rfl) (fun _ _ _ h => h) (Or.inl ⟨by rfl, ?_⟩) (by assumption) ?_
      rotate_left
      · ((intro w hSw; (try dsimp only at hSw); go_simp); (try with_reducible rfl))
      try simp only [Act.put, List.setIfInBounds_toArray, List.set_cons_zero, List.set_cons_succ]
      refine wpAnyH_take (i := 5) (oi := ⟨_, _, _, _, _, _⟩) (v := ?_) rfl (by kernel_rfl) (by kernel_rfl) (by kernel_rfl) (fun _ _ _ h => h) (Or.inl ⟨by rfl, ?_⟩) (by assumption) ?_
      rotate_left
      · ((intro w hSw; (try dsimp only at hSw); go_simp); (try with_reducible rfl))
      try simp only [Act.put, List.setIfInBounds_toArray, List.set_cons_zero, List.set_cons_succ]
      refine wpAnyH_take (i := 6) (oi := ⟨_, _, _, _, _, _⟩) (v := ?_) rfl (by kernel_rfl) (by kernel_rfl) (by kernel_rfl) (fun _ _ _ h => h) (Or.inl ⟨by rfl, ?_⟩) (by assumption) ?_
      rotate_left
      · ((intro w hSw; (try dsimp only at hSw); go_simp); (try with_reducible rfl))
      try simp only [Act.put, List.setIfInBounds_toArray, List.set_cons_zero, List.set_cons_succ]
      refine wpAnyH_take (i := 7) (oi := ⟨_, _, _, _, _, _⟩) (v := ?_) rfl (by kernel_rfl) (by kernel_rfl) (by kernel_rfl) (fun _ _ _ h => h) (Or.inl ⟨by rfl, ?_⟩) (by assumption) ?_
      rotate_left
      · ((intro w hSw; (try dsimp only at hSw); go_simp); (try with_reducible rfl))
      try simp only [Act.put, List.setIfInBounds_toArray, List.set_cons_zero, List.set_cons_succ]
      refine wpAnyH_take (i := 8) (oi := ⟨_, _, _, _, _, _⟩) (v := ?_) rfl (by kernel_rfl) (by kernel_rfl) (by kernel_rfl) (fun _ _ _ h => h) (Or.inl ⟨by rfl, ?_⟩) (by assumption) ?_
      rotate_left
      · ((intro w hSw; (try dsimp only at hSw); go_simp); (try with_reducible rfl))
      try simp only [Act.put, List.setIfInBounds_toArray, List.set_cons_zero, List.set_cons_succ]
      refine wpAnyH_take (i := 9) (oi := ⟨_, _, _, _, _, _⟩) (v := ?_) rfl (by kernel_rfl) (by kernel_rfl) (by kernel_rfl) (fun _ _ _ h => h) (Or.inl ⟨by rfl, ?_⟩) (by assumption) ?_
      rotate_left
      · ((intro w hSw; (try dsimp only at hSw); go_simp); (try with_reducible rfl))
      try simp only [Act.put, List.setIfInBounds_toArray, List.set_cons_zero, List.set_cons_succ]
      refine wpAnyH_take (i := 10) (oi := ⟨_, _, _, _, _, _⟩) (v := ?_) rfl (by kernel_rfl) (by kernel_rfl) (by kernel_rfl) (fun _ _ _ h => h) (Or.inl ⟨by rfl, ?_⟩) (by assumption) ?_
      rotate_left
      · ((intro w hSw; (try dsimp only at hSw); go_simp); (try with_reducible rfl))
      try simp only [Act.put, List.setIfInBounds_toArray, List.set_cons_zero, List.set_cons_succ]
      refine wpAnyH_take (i := 11) (oi := ⟨_, _, _, _, _, _⟩) (v := ?_) rfl (by kernel_rfl) (by kernel_rfl) (by kernel_rfl) (fun _ _ _ h => h) (Or.inl ⟨by rfl, ?_⟩) (by assumption) ?_
      rotate_left
      · ((intro w hSw; (try dsimp only at hSw); go_simp); (try with_reducible rfl))
      try simp only [Act.put, List.setIfInBounds_toArray, List.set_cons_zero, List.set_cons_succ]
      refine wpAnyH_take (i := 12) (oi := ⟨_, _, _, _, _, _⟩) (v := ?_) rfl (by kernel_rfl) (by kernel_rfl) (by kernel_rfl) (fun _ _ _ h => h) (Or.inl ⟨by rfl, ?_⟩) (by assumption) ?_
      rotate_left
      · ((intro w hSw; (try dsimp only at hSw); go_simp); (try with_reducible rfl))
      try simp only [Act.put, List.setIfInBounds_toArray, List.set_cons_zero, List.set_cons_succ]
      refine wpAnyH_take (i := 13) (oi := ⟨_, _, _, _, _, _⟩) (v := ?_) rfl (by kernel_rfl) (by kernel_rfl) (by kernel_rfl) (fun _ _ _ h => h) (Or.inl ⟨by rfl, ?_⟩) (by assumption) ?_
      rotate_left
      · ((intro w hSw; (try dsimp only at hSw); go_simp); (try with_reducible rfl))
      try simp only [Act.put, List.setIfInBounds_toArray, List.set_cons_zero, List.set_cons_succ]
      refine wpAnyH_take (i := 14) (oi := ⟨_, _, _, _, _, _⟩) (v := ?_) rfl (by kernel_rfl) (by kernel_rfl) (by kernel_rfl) (fun _ _ _ h => h) (Or.inl ⟨by rfl, ?_⟩) (by assumption) ?_
      rotate_left
      · ((intro w hSw; (try dsimp only at hSw); go_simp); (try with_reducible rfl))
      try simp only [Act.put, List.setIfInBounds_toArray, List.set_cons_zero, List.set_cons_succ]
      refine wpAnyH_take (i := 15) (oi := ⟨_, _, _, _, _, _⟩) (v := ?_) rfl (by kernel_rfl) (by kernel_rfl) (by kernel_rfl) (fun _ _ _ h => h) (Or.inl ⟨by rfl, ?_⟩) (by assumption) ?_
      rotate_left
      · ((intro w hSw; (try dsimp only at hSw); go_simp); (try with_reducible rfl))
      try simp only [Act.put, List.setIfInBounds_toArray, List.set_cons_zero, List.set_cons_succ]
      refine wpAnyH_take (i := 16) (oi := ⟨_, _, _, _, _, _⟩) (v := ?_) rfl (by kernel_rfl) (by kernel_rfl) (by kernel_rfl) (fun _ _ _ h => h) (Or.inl ⟨by rfl, ?_⟩) (by assumption) ?_
      rotate_left
      · ((intro w hSw; (try dsimp only at hSw); go_simp); (try with_reducible rfl))
      try simp only [Act.put, List.setIfInBounds_toArray, List.set_cons_zero, List.set_cons_succ]
      refine wpAnyH_take (i := 17) (oi := ⟨_, _, _, _, _, _⟩) (v := ?_) rfl (by kernel_rfl) (by kernel_rfl) (by kernel_rfl) (fun _ _ _ h => h) (Or.inl ⟨by rfl, ?_⟩) (by assumption) ?_
      rotate_left
      · ((intro w hSw; (try dsimp only at hSw); go_simp); (try with_reducible rfl))
      try simp only [Act.put, List.setIfInBounds_toArray, List.set_cons_zero, List.set_cons_succ]
      refine wpAnyH_take (i := 18) (oi := ⟨_, _, _, _, _, _⟩) (v := ?_) rfl (by kernel_rfl) (by kernel_rfl) (by kernel_rfl) (fun _ _ _ h => h) (Or.inl ⟨by rfl, ?_⟩) (by assumption) ?_
      rotate_left
      · ((intro w hSw; (try dsimp only at hSw); go_simp); (try with_reducible rfl))
      try simp only [Act.put, List.setIfInBounds_toArray, List.set_cons_zero, List.set_cons_succ]
      refine wpAnyH_take (i := 19) (oi := ⟨_, _, _, _, _, _⟩) (v := ?_) rfl (by kernel_rfl) (by kernel_rfl) (by kernel_rfl) (fun _ _ _ h => h) (Or.inl ⟨by rfl, ?_⟩) (by assumption) ?_
      rotate_left
      · ((intro w hSw; (try dsimp only at hSw); go_simp); (try with_reducible rfl))
      try simp only [Act.put, List.setIfInBounds_toArray, List.set_cons_zero, List.set_cons_succ]
      refine wpAnyH_done (by kernel_rfl) ?_ _
      clear hH S0 hmin
      cases q with
      | false =>
        have FIN : Hid (SameP l l2 s ∧ Below w.heap.size w wr.drew) := ⟨⟨by omega, by omega, ALL.out, fun _ _ e => by have := HQ.out; simp [e] at this⟩, HB.out.drew⟩
        clear hq HQ
        go_wp2
        go_ret
        exact ⟨_, rfl, FIN.out⟩
      | true =>
        have EQ : Hid (eT l s = eT l2 s) := by have := HQ.out; show _ = _; simpa using this
        have HB2 : Hid (Below w.heap.size w wr.drew) := HB.out.drew
        clear hq HQ
        go_wp2
        go_roundw
        case rel => exact ⟨s + 1, by omega, by go_num, fun i hi => if h : i < s then ALL.out i h else by rw [show i = s by omega]; exact EQ.out, HB2.out⟩
        case measure => simp [intOf]; omega
    · have hs3 : ¬ (s : Int) < (mn : Int) := by omega
      have hs4 : decide ((s : Int) < (mn : Int)) = false := decide_eq_false hs3
      have FIN : Hid (SameP l l2 s ∧ Below w.heap.size w wr.drew) := ⟨⟨by omega, by omega, ALL.out, fun h1 h2 => by have := M3.out s h1 h2; omega⟩, HB.out.drew⟩
      have S0 : True := trivial
      clear hx0 hy0
      go_wp2_with fail
      refine wp_region_held_drew (S := fun _ => True) (by kernel_rfl) S0 (fun hH => ?_)
      refine wpAnyH_take (i := 0) (oi := ⟨_, _, _, _, _, _⟩) (v := ?_) rfl (by kernel_rfl) (by kernel_rfl) (by kernel_rfl) (fun _ _ _ h => h) (Or.inl ⟨by rfl, ?_⟩) (by assumption) ?_
      rotate_left
      · ((intro w hSw; (try dsimp only at hSw); go_simp); (try with_reducible rfl))
      try simp only [Act.put, List.setIfInBounds_toArray, List.set_cons_zero, List.set_cons_succ]
      refine wpAnyH_take (i := 1) (oi := ⟨_, _, _, _, _, _⟩) (v := ?_) rfl (by kernel_rfl) (by kernel_rfl) (by kernel_rfl) (fun _ _ _ h => h) (Or.inl ⟨by rfl, ?_⟩) (by assumption) ?_
      rotate_left
      · ((intro w hSw; (try dsimp only at hSw); go_simp); (try with_reducible rfl))
      try simp only [Act.put, List.setIfInBounds_toArray, List.set_cons_zero, List.set_cons_succ]
      refine wpAnyH_take (i := 2) (oi := ⟨_, _, _, _, _, _⟩) (v := ?_) rfl (by kernel_rfl) (by kernel_rfl) (by kernel_rfl) (fun _ _ _ h => h) (Or.inl ⟨by rfl, ?_⟩) (by assumption) ?_
      rotate_left
      · ((intro w hSw; (try dsimp only at hSw); go_simp); (try with_reducible rfl))
      try simp only [Act.put, List.setIfInBounds_toArray, List.set_cons_zero, List.set_cons_succ]
      refine wpAnyH_take (i := 3) (oi := ⟨_, _, _, _, _, _⟩) (v := ?_) rfl (by kernel_rfl) (by kernel_rfl) (by kernel_rfl) (fun _ _ _ h => h) (Or.inl ⟨by rfl, ?_⟩) (by assumption) ?_
      rotate_left
      · ((intro w hSw; (try dsimp only at hSw); go_simp); (try with_reducible rfl))
      try simp only [Act.put, List.setIfInBounds_toArray, List.set_cons_zero, List.set_cons_succ]
      refine wpAnyH_take (i := 4) (oi := ⟨_, _, _, _, _, _⟩) (v := ?_) rfl (by kernel_rfl) (by kernel_rfl) (by kernel_rfl) (fun _ _ _ h => h) (Or.inl ⟨by rfl, ?_⟩) (by assumption) ?_
      rotate_left
      · ((intro w hSw; (try dsimp only at hSw); go_simp); (try with_reducible rfl))
      try simp only [Act.put, List.setIfInBounds_toArray, List.set_cons_zero, List.set_cons_succ]
      refine wpAnyH_take (i := 5) (oi := ⟨_, _, _, _, _, _⟩) (v := ?_) rfl (by kernel_rfl) (by kernel_rfl) (by kernel_rfl) (fun _ _ _ h => h) (Or.inl ⟨by rfl, ?_⟩) (by assumption) ?_
      rotate_left
      · ((intro w hSw; (try dsimp only at hSw); go_simp); (try with_reducible rfl))
      try simp only [Act.put, List.setIfInBounds_toArray, List.set_cons_zero, List.set_cons_succ]
      refine wpAnyH_take (i := 6) (oi := ⟨_, _, _, _, _, _⟩) (v := ?_) rfl (by kernel_rfl) (by kernel_rfl) (by kernel_rfl) (fun _ _ _ h => h) (Or.inl ⟨by rfl, ?_⟩) (by assumption) ?_
      rotate_left
      · ((intro w hSw; (try dsimp only at hSw); go_simp); (try with_reducible rfl))
      try simp only [Act.put, List.setIfInBounds_toArray, List.set_cons_zero, List.set_cons_succ]
      refine wpAnyH_take (i := 7) (oi := ⟨_, _, _, _, _, _⟩) (v := ?_) rfl (by kernel_rfl) (by kernel_rfl) (by kernel_rfl) (fun _ _ _ h => h) (Or.inl ⟨by rfl, ?_⟩) (by assumption) ?_
      rotate_left
      · ((intro w hSw; (try dsimp only at hSw); go_simp); (try with_reducible rfl))
      try simp only [Act.put, List.setIfInBounds_toArray, List.set_cons_zero, List.set_cons_succ]
      refine wpAnyH_take (i := 8) (oi := ⟨_, _, _, _, _, _⟩) (v := undef) rfl (by kernel_rfl) (by kernel_rfl) (by kernel_rfl) (fun _ _ _ h => h) (Or.inr ⟨by rfl, rfl⟩) (by assumption) ?_
      try simp only [Act.put, List.setIfInBounds_toArray, List.set_cons_zero, List.set_cons_succ]
      refine wpAnyH_take (i := 9) (oi := ⟨_, _, _, _, _, _⟩) (v := undef) rfl (by kernel_rfl) (by kernel_rfl) (by kernel_rfl) (fun _ _ _ h => h) (Or.inr ⟨by rfl, rfl⟩) (by assumption) ?_
      try simp only [Act.put, List.setIfInBounds_toArray, List.set_cons_zero, List.set_cons_succ]
      refine wpAnyH_take (i := 10) (oi := ⟨_, _, _, _, _, _⟩) (v := undef) rfl (by kernel_rfl) (by kernel_rfl) (by kernel_rfl) (fun _ _ _ h => h) (Or.inr ⟨by rfl, rfl⟩) (by assumption) ?_
      try simp only [Act.put, List.setIfInBounds_toArray, List.set_cons_zero, List.set_cons_succ]
      refine wpAnyH_take (i := 11) (oi := ⟨_, _, _, _, _, _⟩) (v := undef) rfl (by kernel_rfl) (by kernel_rfl) (by kernel_rfl) (fun _ _ _ h => h) (Or.inr ⟨by rfl, rfl⟩) (by assumption) ?_
      try simp only [Act.put, List.setIfInBounds_toArray, List.set_cons_zero, List.set_cons_succ]
      refine wpAnyH_take (i := 12) (oi := ⟨_, _, _, _, _, _⟩) (v := undef) rfl (by kernel_rfl) (by kernel_rfl) (by kernel_rfl) (fun _ _ _ h => h) (Or.inr ⟨by rfl, rfl⟩) (by assumption) ?_
      try simp only [Act.put, List.setIfInBounds_toArray, List.set_cons_zero, List.set_cons_succ]
      refine wpAnyH_take (i := 13) (oi := ⟨_, _, _, _, _, _⟩) (v := undef) rfl (by kernel_rfl) (by kernel_rfl) (by kernel_rfl) (fun _ _ _ h => h) (Or.inr ⟨by rfl, rfl⟩) (by assumption) ?_
      try simp only [Act.put, List.setIfInBounds_toArray, List.set_cons_zero, List.set_cons_succ]
      refine wpAnyH_take (i := 14) (oi := ⟨_, _, _, _, _, _⟩) (v := undef) rfl (by kernel_rfl) (by kernel_rfl) (by kernel_rfl) (fun _ _ _ h => h) (Or.inr ⟨by rfl, rfl⟩) (by assumption) ?_
      try simp only [Act.put, List.setIfInBounds_toArray, List.set_cons_zero, List.set_cons_succ]
      refine wpAnyH_take (i := 15) (oi := ⟨_, _, _, _, _, _⟩) (v := undef) rfl (by kernel_rfl) (by kernel_rfl) (by kernel_rfl) (fun _ _ _ h => h) (Or.inr ⟨by rfl, rfl⟩) (by assumption) ?_
      try simp only [Act.put, List.setIfInBounds_toArray, List.set_cons_zero, List.set_cons_succ]
      refine wpAnyH_take (i := 16) (oi := ⟨_, _, _, _, _, _⟩) (v := undef) rfl (by kernel_rfl) (by kernel_rfl) (by kernel_rfl) (fun _ _ _ h => h) (Or.inr ⟨by rfl, rfl⟩) (by assumption) ?_
      try simp only [Act.put, List.setIfInBounds_toArray, List.set_cons_zero, List.set_cons_succ]
      refine wpAnyH_take (i := 17) (oi := ⟨_, _, _, _, _, _⟩) (v := undef) rfl (by kernel_rfl) (by kernel_rfl) (by kernel_rfl) (fun _ _ _ h => h) (Or.inr ⟨by rfl, rfl⟩) (by assumption) ?_
      try simp only [Act.put, List.setIfInBounds_toArray, List.set_cons_zero, List.set_cons_succ]
      refine wpAnyH_take (i := 18) (oi := ⟨_, _, _, _, _, _⟩) (v := undef) rfl (by kernel_rfl) (by kernel_rfl) (by kernel_rfl) (fun _ _ _ h => h) (Or.inr ⟨by rfl, rfl⟩) (by assumption) ?_
      try simp only [Act.put, List.setIfInBounds_toArray, List.set_cons_zero, List.set_cons_succ]
      refine wpAnyH_take (i := 19) (oi := ⟨_, _, _, _, _, _⟩) (v := ?_) rfl (by kernel_rfl) (by kernel_rfl) (by kernel_rfl) (fun _ _ _ h => h) (Or.inl ⟨by rfl, ?_⟩) (by assumption) ?_
      rotate_left
      · ((intro w hSw; (try dsimp only at hSw); go_simp); (try with_reducible rfl))
      try simp only [Act.put, List.setIfInBounds_toArray, List.set_cons_zero, List.set_cons_succ]
      refine wpAnyH_done (by kernel_rfl) ?_ _
      clear hH S0 hmin
      go_wp2
      go_ret
      exact ⟨_, rfl, FIN.out⟩

set_option maxRecDepth 100000 in
set_option maxHeartbeats 4000000 in
theorem putFrom_any (v v3 : Value) (l l3 : EL) (k : Nat) (w : World) (h : Row w v l.length (flatE l)) (h3 : Row w v3 l3.length (flatE l3)) (hk : k ≤ l.length) (hs : l.length + l3.length ≤ 2097152) :
    Calls Try.prog 52 #[v, .int .i64 k, v3] w fun e w' => ∃ v', e = .returned v' ∧ w'.ownsRow w.heap.size 39 6 v' (putS l k l3 l3.length).length (flatE (putS l k l3 l3.length)) ∧ Below w.heap.size w w' := by
  have R1 : Hid (∀ u, Below w.heap.size w u → Row u v l.length (flatE l)) := fun u hu => Row.below h hu
  have R3 : Hid (∀ u, Below w.heap.size w u → Row u v3 l3.length (flatE l3)) := fun u hu => Row.below h3 hu
  obtain ⟨a, bb, off, cap, rfl, hcap, hmax, -⟩ := h.ents
  obtain ⟨a3, bb3, off3, cap3, rfl, hcap3, hmax3, -⟩ := h3.ents
  unfold maxLen at hmax hmax3
  clear h h3
  go_enter Try.func52, Try.ntmps52
  go_wp2_with fail
  refine (tailOf_any _ l k w (R1.out _ (Below.refl _ _)) hk).mono ?_
  rintro e w1 ⟨v2, rfl, r2, hw1⟩
  subst hw1
  have R2 : Hid (Row w1 v2 (l.drop k).length (flatE (l.drop k))) := r2
  clear r2
  go_wp2_with fail
  refine (sameTerms_any _ _ (l.drop k) l3 w1 R2.out (R3.out _ (Below.refl _ _))).mono ?_
  rintro e w2 ⟨s, rfl, hsame, b2⟩
  have B2 : Hid (Below w1.heap.size w1 w2) := b2
  have HE : Hid _ := putS_eq hsame hk
  have hsl : s ≤ l3.length := hsame.2.1
  have hsk : k + s ≤ l.length := by have := hsame.1; rw [List.length_drop] at this; omega
  clear b2 hsame R2
  by_cases hq : s = l3.length
  · have HE2 : Hid (putS l k l3 l3.length = l) := by show _ = _; have := HE.out; rw [if_pos hq] at this; exact this
    have hq2 : ((s : Int) == (l3.length : Int)) = true := by rw [hq]; simp
    have HX : Hid ((w2.alloc (.cells #[.slice a l.length cap] 24)).heap[w2.heap.size]? = some (.cells #[.slice a l.length cap] 24 (0, 0))) := heap_alloc_new _ _
    have B3 : Hid (Below w1.heap.size w1 (w2.alloc (.cells #[.slice a l.length cap] 24))) := Below.and B2.out (bel_nw _ _)
    clear HE hq
    go_wp2_with fail
    refine (joined_one _ _ _ l _ HX.out (R1.out _ B3.out) (by omega)).mono ?_
    rintro e w3 ⟨v', rfl, o3, b3⟩
    have FIN : Hid (w3.ownsRow w1.heap.size 39 6 v' (putS l k l3 l3.length).length (flatE (putS l k l3 l3.length)) ∧ Below w1.heap.size w1 w3) := by
      show _ ∧ _
      rw [HE2.out]
      exact ⟨owns_mono o3 B3.out.size, Below.and B3.out b3⟩
    clear o3 b3
    go_wp2
    go_ret
    exact ⟨_, rfl, FIN.out⟩
  · have HE2 : Hid (putS l k l3 l3.length = l.take (k + s) ++ l3.drop s) := by show _ = _; have := HE.out; rw [if_neg hq] at this; exact this
    have hq2 : ((s : Int) == (l3.length : Int)) = false := by simp; omega
    clear HE
    have HD : Hid (Calls Try.prog 71 #[.slice a l.length cap, .int .i64 ((k : Int) + (s : Int))] w2 fun e w' => ∃ v', e = .returned v' ∧ Row w2 v' (l.take (k + s)).length (flatE (l.take (k + s))) ∧ w' = w2) := by
      have := headOf_any _ l (k + s) w2 (R1.out _ B2.out) hsk
      rw [Int.natCast_add] at this
      exact this
    go_wp2_with fail
    refine HD.out.mono ?_
    rintro e w3 ⟨vh, rfl, rh, hw3⟩
    subst hw3
    obtain ⟨ah, qh, hvh, -⟩ := rh.len
    generalize hn1 : (l.take (k + s)).length = n1 at *
    have HN1 : Hid _ := hn1
    clear hn1
    have RH : Hid (Row w3 vh n1 (flatE (l.take (k + s)))) := rh
    clear rh
    go_wp2_with fail
    refine (tailOf_any _ l3 s w3 (R3.out _ B2.out) hsl).mono ?_
    rintro e w4 ⟨vt, rfl, rt, hw4⟩
    subst hw4
    obtain ⟨at3, qt, hvt, -⟩ := rt.len
    generalize hn2 : (l3.drop s).length = n2 at *
    have HN : Hid _ := And.intro HN1.out hn2
    clear hn2 HN1
    subst hvh hvt
    have HX : Hid ((w4.alloc (.cells #[.slice ah n1 qh, .slice at3 n2 qt] 24)).heap[w4.heap.size]? = some (.cells #[.slice ah n1 qh, .slice at3 n2 qt] 24 (0, 0))) := heap_alloc_new _ _
    have B3 : Hid (Below w1.heap.size w1 (w4.alloc (.cells #[.slice ah n1 qh, .slice at3 n2 qt] 24))) := Below.and B2.out (bel_nw _ _)
    have RH2 : Hid (Row (w4.alloc (.cells #[.slice ah n1 qh, .slice at3 n2 qt] 24)) (.slice ah n1 qh) n1 (flatE (l.take (k + s)))) := Row.below RH.out (bel_nw _ _)
    have RT2 : Hid (Row (w4.alloc (.cells #[.slice ah n1 qh, .slice at3 n2 qt] 24)) (.slice at3 n2 qt) n2 (flatE (l3.drop s))) := rt.below (bel_nw _ _)
    have HSZ : Hid (n1 + n2 ≤ 2097152) := by show _ ≤ _; have h1 := HN.out.1; have h2 := HN.out.2; rw [List.length_take] at h1; rw [List.length_drop] at h2; omega
    clear rt RH
    go_wp2_with fail
    refine (joined_two w4.heap.size 24 (.slice ah n1 qh) (.slice at3 n2 qt) (l.take (k + s)) (l3.drop s) _ HX.out (by rw [HN.out.1]; exact RH2.out) (by rw [HN.out.2]; exact RT2.out) (by rw [HN.out.1, HN.out.2]; exact HSZ.out)).mono ?_
    rintro e w5 ⟨v', rfl, o3, b3⟩
    have FIN : Hid (w5.ownsRow w1.heap.size 39 6 v' (putS l k l3 l3.length).length (flatE (putS l k l3 l3.length)) ∧ Below w1.heap.size w1 w5) := by
      show _ ∧ _
      rw [HE2.out]
      exact ⟨owns_mono o3 B3.out.size, Below.and B3.out b3⟩
    clear o3 b3
    go_wp2
    go_ret
    exact ⟨_, rfl, FIN.out⟩

end Go.Proofs.Yteegcblndbljlaa
