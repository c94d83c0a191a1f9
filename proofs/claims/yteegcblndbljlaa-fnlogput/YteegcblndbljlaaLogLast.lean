/-
  LastOf and Newer of both sides.
-/
import Derived.Test.YteegcblndbljlaaLogOk
namespace Go.Proofs.Yteegcblndbljlaa
open Go.RowKit

/-- the number of the last entry -/
def lastN (b : Int) (l : EL) : Int := if l.length = 0 then b else wrap64 (b + l.length)
/-- what LastOf tells -/
abbrev lastV (b bt : Int) (l : EL) : Value := .tuple #[.int .i64 (lastN b l), .int .i64 (prevT bt l l.length)]
/-- what Newer tells -/
def newerB (b bt : Int) (l : EL) (la lt : Int) : Bool := decide (lt > prevT bt l l.length ∨ (lt = prevT bt l l.length ∧ la ≥ lastN b l))

set_option maxRecDepth 100000 in
set_option maxHeartbeats 2000000 in
theorem specLastOf_any (b bt : Int) (v : Value) (l : EL) (w : World) (h : Row w v l.length (flatE l)) :
    Calls Try.prog 30 #[lgV b bt v] w fun e w' => e = .returned (lastV b bt l) ∧ Below w.heap.size w w' := by
  obtain ⟨a, bb, off, cap, rfl, hcap, hmax, ha, hx0, hx1, hx2, hx3, hx4, hx5⟩ := h.ents
  unfold maxLen at hmax
  clear hx1 hx2 hx3 hx4 hx5
  have N1 : Hid (MBox 26 (w.alloc (.cells #[.int .i64 b, .int .i64 bt, .slice a l.length cap] 26)) w.heap.size #[.int .i64 b, .int .i64 bt, .slice a l.length cap]) := MBox.start _ w _
  have B1 : Hid (Below w.heap.size w (w.alloc (.cells #[.int .i64 b, .int .i64 bt, .slice a l.length cap] 26))) := bel_nw _ _
  have c1 := N1.out.cells
  clear h
  by_cases hz : l.length = 0
  · have E1 : Hid (lastN b l = b) := if_pos hz
    have E2 : Hid (prevT bt l l.length = bt) := by show _ = _; rw [hz]; rfl
    have HZ : Hid _ := hz
    rw [hz] at c1 B1 ⊢
    rw [hz] at hcap
    clear hx0 ha hz
    go_enter Try.func30, Try.ntmps30
    go_wp2_with fail
    go_quiet (fail)
    go_wp2
    refine bodyPost_ret (v := .tuple #[.int .i64 b, .int .i64 bt]) (by simp [results, Try.results30, go_sem]) rfl ⟨?_, below_drewN B1.out _⟩
    show _ = Ending.returned (.tuple #[.int .i64 (lastN b l), .int .i64 (prevT bt l l.length)])
    rw [E1.out, E2.out]
  · obtain ⟨n, hn⟩ : ∃ n, l.length = n + 1 := ⟨l.length - 1, by omega⟩
    have E1 : Hid (lastN b l = wrap64 (b + ((n + 1 : Nat) : Int))) := by show _ = _; unfold lastN; rw [if_neg hz, hn]
    have E2 : Hid (prevT bt l l.length = eT l n) := by show _ = _; rw [hn, prevT_succ]
    have hal := ha (by omega)
    subst hal
    have d0 : (w.alloc (.cells #[.int .i64 b, .int .i64 bt, .slice (some ⟨bb, off, none⟩) l.length cap] 26)).cell? ⟨bb, off + n * 6, none⟩ = some (.int .i64 (eT l n)) := (B1.out.cell (by exact cell_lt (hx0 n (by omega)))).trans (hx0 n (by omega))
    rw [hn] at c1 B1 d0 hcap ⊢
    clear hx0 ha hz N1
    have HN : Hid _ := hn
    clear hn
    go_enter Try.func30, Try.ntmps30
    go_wp2_with fail
    go_quiet (fail)
    go_wp2
    refine bodyPost_ret (v := .tuple #[.int .i64 (wrap64 (b + ((n + 1 : Nat) : Int))), .int .i64 (eT l n)]) (by simp [results, Try.results30, go_sem]) rfl ⟨?_, below_drewN B1.out _⟩
    show _ = Ending.returned (.tuple #[.int .i64 (lastN b l), .int .i64 (prevT bt l l.length)])
    rw [E1.out, E2.out]

set_option maxRecDepth 100000 in
set_option maxHeartbeats 2000000 in
theorem specNewer_any (b bt : Int) (v : Value) (l : EL) (la lt : Int) (w : World) (h : Row w v l.length (flatE l)) :
    Calls Try.prog 32 #[lgV b bt v, .int .i64 la, .int .i64 lt] w fun e w' => e = .returned (.bool (newerB b bt l la lt)) ∧ Below w.heap.size w w' := by
  have C : Hid (∀ u, Below w.heap.size w u → Calls Try.prog 30 #[lgV b bt v] u fun e w' => e = .returned (.tuple #[.int .i64 (lastN b l), .int .i64 (prevT bt l l.length)]) ∧ Below u.heap.size u w') := fun u hu => specLastOf_any b bt v l u (Row.below h hu)
  have B1 : Hid (Below w.heap.size w (w.alloc (.cells #[.int .i64 b, .int .i64 bt, v] 26))) := bel_nw _ _
  clear h
  unfold newerB
  generalize lastN b l = n at *
  generalize prevT bt l l.length = t at *
  go_enter Try.func32, Try.ntmps32
  go_wp2_with fail
  refine (C.out _ B1.out).mono ?_
  rintro e w1 ⟨rfl, b1⟩
  have B2 : Hid (Below w.heap.size w w1) := Below.and B1.out b1
  clear b1 B1 C
  by_cases h1 : t < lt
  · have h1' : decide (lt > t ∨ (lt = t ∧ la ≥ n)) = true := by simp [h1]
    have HE : Hid _ := h1'
    clear h1'
    go_wp2
    go_ret
    exact ⟨ret_bool HE.out.symm, B2.out⟩
  · by_cases h2 : lt = t
    · by_cases h3 : n ≤ la
      · have HE : Hid (decide (lt > t ∨ (lt = t ∧ la ≥ n)) = true) := by show _ = _; simp [h2, h3]
        subst h2
        go_wp2
        go_ret
        exact ⟨ret_bool (by first | exact HE.out.symm | rfl | (rw [HE.out]; exact decide_eq_false (by omega))), B2.out⟩
      · have HE : Hid (decide (lt > t ∨ (lt = t ∧ la ≥ n)) = false) := by show _ = _; simp [h2]; omega
        subst h2
        go_wp2
        go_ret
        exact ⟨ret_bool (by first | exact HE.out.symm | rfl | (rw [HE.out]; exact decide_eq_false (by omega))), B2.out⟩
    · have HE : Hid (decide (lt > t ∨ (lt = t ∧ la ≥ n)) = false) := by show _ = _; simp [h2]; omega
      have h2' : (lt == t) = false := by simpa using h2
      go_wp2
      go_ret
      exact ⟨ret_bool (by first | exact HE.out.symm | rfl | (rw [HE.out]; exact decide_eq_false (by omega))), B2.out⟩

set_option maxRecDepth 100000 in
set_option maxHeartbeats 2000000 in
theorem implLastOf_any (b bt : Int) (v : Value) (l : EL) (w : World) (h : Row w v l.length (flatE l)) :
    Calls Try.prog 24 #[lgV b bt v] w fun e w' => e = .returned (lastV b bt l) ∧ Below w.heap.size w w' := by
  obtain ⟨a, bb, off, cap, rfl, hcap, hmax, ha, hx0, hx1, hx2, hx3, hx4, hx5⟩ := h.ents
  unfold maxLen at hmax
  clear hx1 hx2 hx3 hx4 hx5
  have N1 : Hid (MBox 26 (w.alloc (.cells #[.int .i64 b, .int .i64 bt, .slice a l.length cap] 26)) w.heap.size #[.int .i64 b, .int .i64 bt, .slice a l.length cap]) := MBox.start _ w _
  have B1 : Hid (Below w.heap.size w (w.alloc (.cells #[.int .i64 b, .int .i64 bt, .slice a l.length cap] 26))) := bel_nw _ _
  have c1 := N1.out.cells
  clear h
  by_cases hz : l.length = 0
  · have E1 : Hid (lastN b l = b) := if_pos hz
    have E2 : Hid (prevT bt l l.length = bt) := by show _ = _; rw [hz]; rfl
    have HZ : Hid _ := hz
    rw [hz] at c1 B1 ⊢
    rw [hz] at hcap
    clear hx0 ha hz
    go_enter Try.func24, Try.ntmps24
    go_wp2_with fail
    go_quiet (fail)
    go_wp2
    refine bodyPost_ret (v := .tuple #[.int .i64 b, .int .i64 bt]) (by simp [results, Try.results24, go_sem]) rfl ⟨?_, below_drewN B1.out _⟩
    show _ = Ending.returned (.tuple #[.int .i64 (lastN b l), .int .i64 (prevT bt l l.length)])
    rw [E1.out, E2.out]
  · obtain ⟨n, hn⟩ : ∃ n, l.length = n + 1 := ⟨l.length - 1, by omega⟩
    have E1 : Hid (lastN b l = wrap64 (b + ((n + 1 : Nat) : Int))) := by show _ = _; unfold lastN; rw [if_neg hz, hn]
    have E2 : Hid (prevT bt l l.length = eT l n) := by show _ = _; rw [hn, prevT_succ]
    have hal := ha (by omega)
    subst hal
    have d0 : (w.alloc (.cells #[.int .i64 b, .int .i64 bt, .slice (some ⟨bb, off, none⟩) l.length cap] 26)).cell? ⟨bb, off + n * 6, none⟩ = some (.int .i64 (eT l n)) := (B1.out.cell (by exact cell_lt (hx0 n (by omega)))).trans (hx0 n (by omega))
    rw [hn] at c1 B1 d0 hcap ⊢
    clear hx0 ha hz N1
    have HN : Hid _ := hn
    clear hn
    go_enter Try.func24, Try.ntmps24
    go_wp2_with fail
    go_quiet (fail)
    go_wp2
    refine bodyPost_ret (v := .tuple #[.int .i64 (wrap64 (b + ((n + 1 : Nat) : Int))), .int .i64 (eT l n)]) (by simp [results, Try.results24, go_sem]) rfl ⟨?_, below_drewN B1.out _⟩
    show _ = Ending.returned (.tuple #[.int .i64 (lastN b l), .int .i64 (prevT bt l l.length)])
    rw [E1.out, E2.out]

set_option maxRecDepth 100000 in
set_option maxHeartbeats 2000000 in
theorem implNewer_any (b bt : Int) (v : Value) (l : EL) (la lt : Int) (w : World) (h : Row w v l.length (flatE l)) :
    Calls Try.prog 31 #[lgV b bt v, .int .i64 la, .int .i64 lt] w fun e w' => e = .returned (.bool (newerB b bt l la lt)) ∧ Below w.heap.size w w' := by
  have C : Hid (∀ u, Below w.heap.size w u → Calls Try.prog 24 #[lgV b bt v] u fun e w' => e = .returned (.tuple #[.int .i64 (lastN b l), .int .i64 (prevT bt l l.length)]) ∧ Below u.heap.size u w') := fun u hu => implLastOf_any b bt v l u (Row.below h hu)
  have B1 : Hid (Below w.heap.size w (w.alloc (.cells #[.int .i64 b, .int .i64 bt, v] 26))) := bel_nw _ _
  clear h
  unfold newerB
  generalize lastN b l = n at *
  generalize prevT bt l l.length = t at *
  go_enter Try.func31, Try.ntmps31
  go_wp2_with fail
  refine (C.out _ B1.out).mono ?_
  rintro e w1 ⟨rfl, b1⟩
  have B2 : Hid (Below w.heap.size w w1) := Below.and B1.out b1
  clear b1 B1 C
  by_cases h1 : t < lt
  · have h1' : decide (lt > t ∨ (lt = t ∧ la ≥ n)) = true := by simp [h1]
    have HE : Hid _ := h1'
    clear h1'
    go_wp2
    go_ret
    exact ⟨ret_bool HE.out.symm, B2.out⟩
  · by_cases h2 : lt = t
    · by_cases h3 : n ≤ la
      · have HE : Hid (decide (lt > t ∨ (lt = t ∧ la ≥ n)) = true) := by show _ = _; simp [h2, h3]
        subst h2
        go_wp2
        go_ret
        exact ⟨ret_bool (by first | exact HE.out.symm | rfl | (rw [HE.out]; exact decide_eq_false (by omega))), B2.out⟩
      · have HE : Hid (decide (lt > t ∨ (lt = t ∧ la ≥ n)) = false) := by show _ = _; simp [h2]; omega
        subst h2
        go_wp2
        go_ret
        exact ⟨ret_bool (by first | exact HE.out.symm | rfl | (rw [HE.out]; exact decide_eq_false (by omega))), B2.out⟩
    · have HE : Hid (decide (lt > t ∨ (lt = t ∧ la ≥ n)) = false) := by show _ = _; simp [h2]; omega
      have h2' : (lt == t) = false := by simpa using h2
      go_wp2
      go_ret
      exact ⟨ret_bool (by first | exact HE.out.symm | rfl | (rw [HE.out]; exact decide_eq_false (by omega))), B2.out⟩

end Go.Proofs.Yteegcblndbljlaa
