/-
  TermAt of both sides, and where an entry stands (placeOf).
-/
import Derived.Test.YteegcblndbljlaaLogLast
namespace Go.Proofs.Yteegcblndbljlaa
open Go.RowKit

/-- a number of 64 bits -/
def I64 (x : Int) : Prop := -9223372036854775808 ≤ x ∧ x ≤ 9223372036854775807
theorem far_u64 {b i : Int} (hb : I64 b) (hi : I64 i) (h : b < i) : IntKind.u64.wrap (IntKind.u64.wrap (IntKind.u64.wrap i - IntKind.u64.wrap b) - 1) = i - b - 1 := by
  unfold I64 at hb hi
  simp only [IntKind.wrap_u64]
  omega
theorem far_i64 {b i : Int} {n : Nat} (hb : I64 b) (hi : I64 i) (h : b < i) (hn : ¬ i - b - 1 < n) : inB (wrap64 (wrap64 (i - b) - 1)) 0 ((n : Int) - 1) = false := by
  unfold I64 at hb hi
  unfold wrap64 inB
  simp only [decide_eq_false_iff_not]
  omega
/-- where the entry number i stands -/
def placeB (b : Int) (l : EL) (i : Int) : Option Nat := if b < i ∧ i - b - 1 < l.length then some (i - b - 1).toNat else none
theorem placeB_le {b : Int} {l : EL} {i : Int} (h : i ≤ b) : placeB b l i = none := if_neg (by omega)
theorem placeB_far {b : Int} {l : EL} {i : Int} (h : ¬ i - b - 1 < l.length) : placeB b l i = none := if_neg (by omega)
theorem placeB_at {b : Int} {l : EL} {n : Nat} (h : n < l.length) {i : Int} (hi : i = b + n + 1) : placeB b l i = some n := by
  unfold placeB; rw [if_pos (by omega)]; congr 1; omega
theorem placeB_some {b : Int} {l : EL} {i : Int} {n : Nat} (h : placeB b l i = some n) : n < l.length ∧ i = b + n + 1 := by
  unfold placeB at h
  split at h
  · simp at h; omega
  · cases h
/-- the Term of the entry number i -/
def termB (b bt : Int) (l : EL) (i : Int) : Int := if i = b then bt else match placeB b l i with | some n => eT l n | none => -1

abbrev placeV (o : Option Nat) : Value := match o with | some n => .tuple #[.int .i64 (n : Int), .bool true] | none => .tuple #[.int .i64 0, .bool false]

set_option maxRecDepth 100000 in
set_option maxHeartbeats 2000000 in
theorem placeOf_any (b bt : Int) (v : Value) (l : EL) (i : Int) (w : World) (h : Row w v l.length (flatE l)) (hb : I64 b) (hi : I64 i) :
    Calls Try.prog 59 #[lgV b bt v, .int .i64 i] w fun e w' => e = .returned (placeV (placeB b l i)) ∧ Below w.heap.size w w' := by
  obtain ⟨a, bb, off, cap, rfl, hcap, hmax, -⟩ := h.ents
  unfold maxLen at hmax
  have B1 : Hid (Below w.heap.size w (w.alloc (.cells #[.int .i64 b, .int .i64 bt, .slice a l.length cap] 26))) := bel_nw _ _
  clear h
  have HI : Hid (I64 b ∧ I64 i) := ⟨hb, hi⟩
  clear hb hi
  by_cases h1 : i ≤ b
  · have E : Hid (placeB b l i = none) := placeB_le h1
    go_enter Try.func59, Try.ntmps59
    go_wp2
    refine bodyPost_ret (v := .tuple #[.int .i64 0, .bool false]) (by simp [results, Try.results59, go_sem]) rfl ⟨?_, B1.out⟩
    rw [E.out]
  · have hd := far_u64 HI.out.1 HI.out.2 (show b < i by omega)
    by_cases h2 : i - b - 1 < l.length
    · obtain ⟨n, hn⟩ : ∃ n : Nat, i - b - 1 = n := ⟨(i - b - 1).toNat, by omega⟩
      have E : Hid (placeB b l i = some n) := placeB_at (by omega) (by omega)
      rw [hn] at hd h2
      have HN : Hid _ := hn
      have h3 : n < l.length := by omega
      have h4 : ¬ ((l.length : Nat) : Int) ≤ (n : Int) := by omega
      clear h2 hn
      go_enter Try.func59, Try.ntmps59
      go_wp2
      refine bodyPost_ret (v := .tuple #[.int .i64 (n : Int), .bool true]) (by simp [results, Try.results59, go_sem]) rfl ⟨?_, B1.out⟩
      rw [E.out]
    · have E : Hid (placeB b l i = none) := placeB_far h2
      have h4 : ((l.length : Nat) : Int) ≤ i - b - 1 := by omega
      generalize i - b - 1 = d at *
      clear h2
      go_enter Try.func59, Try.ntmps59
      go_wp2
      refine bodyPost_ret (v := .tuple #[.int .i64 0, .bool false]) (by simp [results, Try.results59, go_sem]) rfl ⟨?_, B1.out⟩
      rw [E.out]

set_option maxRecDepth 100000 in
set_option maxHeartbeats 2000000 in
theorem implTermAt_any (b bt : Int) (v : Value) (l : EL) (i : Int) (w : World) (h : Row w v l.length (flatE l)) (hb : I64 b) (hi : I64 i) :
    Calls Try.prog 20 #[lgV b bt v, .int .i64 i] w fun e w' => e = .returned (.int .i64 (termB b bt l i)) ∧ Below w.heap.size w w' := by
  have C : Hid (∀ u, Below w.heap.size w u → Calls Try.prog 59 #[lgV b bt v, .int .i64 i] u fun e w' => e = .returned (placeV (placeB b l i)) ∧ Below u.heap.size u w') := fun u hu => placeOf_any b bt v l i u (Row.below h hu) hb hi
  obtain ⟨a, bb, off, cap, rfl, hcap, hmax, ha, hx0, -⟩ := h.ents
  unfold maxLen at hmax
  have N1 : Hid (MBox 26 (w.alloc (.cells #[.int .i64 b, .int .i64 bt, .slice a l.length cap] 26)) w.heap.size #[.int .i64 b, .int .i64 bt, .slice a l.length cap]) := MBox.start _ w _
  have B1 : Hid (Below w.heap.size w (w.alloc (.cells #[.int .i64 b, .int .i64 bt, .slice a l.length cap] 26))) := bel_nw _ _
  have c1 := N1.out.cells
  clear h hb hi
  by_cases h1 : i = b
  · have E : Hid (termB b bt l i = bt) := if_pos h1
    subst h1
    clear hx0 ha C
    go_enter Try.func20, Try.ntmps20
    go_wp2
    go_ret
    exact ⟨ret_int E.out.symm, B1.out⟩
  · have h1' : (i == b) = false := by simpa using h1
    have E : Hid (termB b bt l i = match placeB b l i with | some n => eT l n | none => -1) := if_neg h1
    cases hp : placeB b l i with
    | none =>
      rw [hp] at C E
      clear hx0 ha
      go_enter Try.func20, Try.ntmps20
      go_wp2_with fail
      refine (C.out _ B1.out).mono ?_
      rintro e w1 ⟨rfl, b1⟩
      have B2 : Hid (Below w.heap.size w w1) := Below.and B1.out b1
      clear b1
      go_wp2
      go_ret
      exact ⟨ret_int E.out.symm, B2.out⟩
    | some n =>
      rw [hp] at C E
      have hn := (placeB_some hp).1
      clear hp
      have hal := ha (by omega)
      subst hal
      go_enter Try.func20, Try.ntmps20
      go_wp2_with fail
      refine (C.out _ B1.out).mono ?_
      rintro e w1 ⟨rfl, b1⟩
      have B2 : Hid (Below w.heap.size w w1) := Below.and B1.out b1
      have N2 := N1.out.step b1
      clear b1 c1
      have c1 := N2.cells
      have d0 : w1.cell? ⟨bb, off + n * 6, none⟩ = some (.int .i64 (eT l n)) := (B2.out.cell (by exact cell_lt (hx0 n hn))).trans (hx0 n hn)
      clear hx0 N2
      go_wp2
      go_ret
      exact ⟨ret_int E.out.symm, B2.out⟩

set_option maxRecDepth 100000 in
set_option maxHeartbeats 2000000 in
theorem specTermAt_any (b bt : Int) (v : Value) (l : EL) (i : Int) (w : World) (h : Row w v l.length (flatE l)) (hb : I64 b) (hi : I64 i) :
    Calls Try.prog 28 #[lgV b bt v, .int .i64 i] w fun e w' => e = .returned (.int .i64 (termB b bt l i)) ∧ Below w.heap.size w w' := by
  obtain ⟨a, bb, off, cap, rfl, hcap, hmax, ha, hx0, -⟩ := h.ents
  unfold maxLen at hmax
  have N1 : Hid (MBox 26 (w.alloc (.cells #[.int .i64 b, .int .i64 bt, .slice a l.length cap] 26)) w.heap.size #[.int .i64 b, .int .i64 bt, .slice a l.length cap]) := MBox.start _ w _
  have B1 : Hid (Below w.heap.size w (w.alloc (.cells #[.int .i64 b, .int .i64 bt, .slice a l.length cap] 26))) := bel_nw _ _
  have c1 := N1.out.cells
  have HI : Hid (I64 b ∧ I64 i) := ⟨hb, hi⟩
  clear h hb hi
  by_cases h1 : i = b
  · have E : Hid (termB b bt l i = bt) := if_pos h1
    subst h1
    clear hx0 ha
    go_enter Try.func28, Try.ntmps28
    go_wp2
    go_ret
    exact ⟨ret_int E.out.symm, B1.out⟩
  · have h1' : (i == b) = false := by simpa using h1
    have E : Hid (termB b bt l i = match placeB b l i with | some n => eT l n | none => -1) := if_neg h1
    by_cases h2 : i < b
    · rw [placeB_le (show i ≤ b by omega)] at E
      clear hx0 ha
      go_enter Try.func28, Try.ntmps28
      go_wp2_with (go_at_call 57; refine (l1In_any _ _ _ _).mono ?_; rintro e w' ⟨rfl, rfl⟩)
      go_ret
      exact ⟨ret_int E.out.symm, B1.out⟩
    · by_cases h3 : i - b - 1 < l.length
      · obtain ⟨n, hn⟩ : ∃ n : Nat, i - b = n + 1 := ⟨(i - b - 1).toNat, by omega⟩
        rw [placeB_at (n := n) (by omega) (by omega)] at E
        have hlt : n < l.length := by omega
        have hi2 : inB (n : Int) 0 ((l.length : Int) - 1) = true := inB_true (by omega) (by omega)
        have hal := ha (by omega)
        subst hal
        have d0 : (w.alloc (.cells #[.int .i64 b, .int .i64 bt, .slice (some ⟨bb, off, none⟩) l.length cap] 26)).cell? ⟨bb, off + n * 6, none⟩ = some (.int .i64 (eT l n)) := (B1.out.cell (by exact cell_lt (hx0 n hlt))).trans (hx0 n hlt)
        clear hx0 ha h3 N1
        go_enter Try.func28, Try.ntmps28
        go_wp2_with (go_at_call 57; refine (l1In_any _ _ _ _).mono ?_; rintro e w' ⟨rfl, rfl⟩)
        go_ret
        exact ⟨ret_int E.out.symm, B1.out⟩
      · have hf := far_i64 HI.out.1 HI.out.2 (show b < i by omega) h3
        rw [placeB_far h3] at E
        clear hx0 ha h3
        go_enter Try.func28, Try.ntmps28
        go_wp2_with (go_at_call 57; refine (l1In_any _ _ _ _).mono ?_; rintro e w' ⟨rfl, rfl⟩)
        go_ret
        exact ⟨ret_int E.out.symm, B1.out⟩

end Go.Proofs.Yteegcblndbljlaa
