/-
  The program's tailOf, headOf, EntriesFrom, copyOfLog.
-/
import Derived.Test.YteegcblndbljlaaJoined
namespace Go.Proofs.Yteegcblndbljlaa
open Go.RowKit

theorem Row.of_box {w : World} {B t k : Nat} {xs : List Value} (h : w.heap[B]? = some (.cells xs.toArray t (0, 0))) (hk : k ≤ maxLen) : Row w (.slice (some ⟨B, 0, none⟩) k k) k xs :=
  ⟨_, B, 0, k, rfl, Nat.le_refl _, hk, fun _ => rfl, fun j u hj => by rw [cell_of_cells h]; simpa using hj, fun h => by cases h⟩

theorem joined_one (B t : Nat) (v : Value) (l : EL) (w : World) (hB : w.heap[B]? = some (.cells #[v] t (0, 0))) (h : Row w v l.length (flatE l)) (hs : l.length ≤ 2097152) :
    Calls Try.prog 61 #[.slice (some ⟨B, 0, none⟩) 1 1] w fun e w' => ∃ v', e = .returned v' ∧ w'.ownsRow w.heap.size 39 6 v' l.length (flatE l) ∧ Below w.heap.size w w' := by
  have hj : joinP [(v, l)] [(v, l)].length = l := by simp [joinP]
  have := joined_any (.slice (some ⟨B, 0, none⟩) 1 1) [(v, l)] w (Row.of_box (xs := [v]) hB (by decide)) (fun j hj => by
    obtain rfl : j = 0 := by simpa using hj
    simpa [ptV, ptL] using h) (by rw [hj]; exact hs)
  rw [hj] at this
  exact this
theorem joined_two (B t : Nat) (v v2 : Value) (l l2 : EL) (w : World) (hB : w.heap[B]? = some (.cells #[v, v2] t (0, 0))) (h : Row w v l.length (flatE l)) (h2 : Row w v2 l2.length (flatE l2)) (hs : l.length + l2.length ≤ 2097152) :
    Calls Try.prog 61 #[.slice (some ⟨B, 0, none⟩) 2 2] w fun e w' => ∃ v', e = .returned v' ∧ w'.ownsRow w.heap.size 39 6 v' (l ++ l2).length (flatE (l ++ l2)) ∧ Below w.heap.size w w' := by
  have hj : joinP [(v, l), (v2, l2)] [(v, l), (v2, l2)].length = l ++ l2 := by simp [joinP]
  have := joined_any (.slice (some ⟨B, 0, none⟩) 2 2) [(v, l), (v2, l2)] w (Row.of_box (xs := [v, v2]) hB (by decide)) (fun j hj => by
    rcases (show j = 0 ∨ j = 1 by simp at hj; omega) with rfl | rfl
    · simpa [ptV, ptL] using h
    · simpa [ptV, ptL] using h2) (by rw [hj, List.length_append]; exact hs)
  rw [hj] at this
  exact this

set_option maxHeartbeats 1000000 in
theorem tailOf_any (v : Value) (l : EL) (k : Nat) (w : World) (h : Row w v l.length (flatE l)) (hk : k ≤ l.length) :
    Calls Try.prog 62 #[v, .int .i64 k] w fun e w' => ∃ v', e = .returned v' ∧ Row w v' (l.drop k).length (flatE (l.drop k)) ∧ w' = w := by
  obtain ⟨a, bb, off, cap, rfl, hcap, hmax, -⟩ := h.ents
  unfold maxLen at hmax
  have P1 := h.part hk (Nat.le_refl _) (Nat.le_refl _) hcap
  rw [List.take_length] at P1
  obtain ⟨a2, ha2⟩ : ∃ a2, (if l.length = k then a else a.map (·.add (k * 6))) = a2 := ⟨_, rfl⟩
  rw [ha2] at P1
  have PP : Hid (Row w (.slice a2 (l.length - k) (l.length - k)) (l.length - k) (flatE (l.drop k))) := P1
  clear h P1
  have HLD : Hid ((l.drop k).length = l.length - k) := List.length_drop
  generalize (l.drop k).length = ld at *
  generalize l.length = n at *
  go_enter Try.func62, Try.ntmps62
  go_wp2
  go_ret
  exact ⟨_, rfl, by rw [HLD.out]; exact PP.out, rfl⟩

set_option maxHeartbeats 1000000 in
theorem headOf_any (v : Value) (l : EL) (k : Nat) (w : World) (h : Row w v l.length (flatE l)) (hk : k ≤ l.length) :
    Calls Try.prog 71 #[v, .int .i64 k] w fun e w' => ∃ v', e = .returned v' ∧ Row w v' (l.take k).length (flatE (l.take k)) ∧ w' = w := by
  obtain ⟨a, bb, off, cap, rfl, hcap, hmax, ha, -⟩ := h.ents
  unfold maxLen at hmax
  have P1 := h.part (Nat.zero_le k) hk (Nat.le_refl k) (by omega)
  rw [List.drop_zero] at P1
  have HLD : Hid ((l.take k).length = k) := by show _ = _; rw [List.length_take]; omega
  have PP : Hid (Row w (.slice (if k = 0 then a else a.map (·.add (0 * 6))) (k - 0) (k - 0)) (k - 0) (flatE (l.take k))) := P1
  by_cases h0 : k = 0
  · subst h0
    rw [if_pos rfl] at PP
    clear h P1
    generalize (l.take 0).length = ld at *
    go_enter Try.func71, Try.ntmps71
    go_wp2
    go_ret
    exact ⟨_, rfl, by rw [HLD.out]; exact PP.out, rfl⟩
  · have hal := ha (by omega)
    subst hal
    rw [if_neg h0] at PP
    have PQ : Hid (Row w (.slice (some ⟨bb, off, none⟩) k k) k (flatE (l.take k))) := by show Row _ _ _ _; have := PP.out; simpa [Addr.add] using this
    clear h P1 PP
    generalize (l.take k).length = ld at *
    go_enter Try.func71, Try.ntmps71
    go_wp2
    go_ret
    exact ⟨_, rfl, by rw [HLD.out]; exact PQ.out, rfl⟩

set_option maxRecDepth 100000 in
set_option maxHeartbeats 2000000 in
theorem implEntriesFrom_any (b bt : Int) (v : Value) (l : EL) (i : Int) (w : World) (h : Row w v l.length (flatE l)) (hb : I64 b) (hi : I64 i) (hs : l.length ≤ 2097152) :
    Calls Try.prog 26 #[lgV b bt v, .int .i64 i] w fun e w' => ∃ v', e = .returned v' ∧ w'.ownsRow w.heap.size 39 6 v' (entsB b l i).length (flatE (entsB b l i)) ∧ Below w.heap.size w w' := by
  have C : Hid (∀ u, Below w.heap.size w u → Calls Try.prog 59 #[lgV b bt v, .int .i64 i] u fun e w' => e = .returned (placeV (placeB b l i)) ∧ Below u.heap.size u w') := fun u hu => placeOf_any b bt v l i u (Row.below h hu) hb hi
  have R0 : Hid (∀ u, Below w.heap.size w u → Row u v l.length (flatE l)) := fun u hu => Row.below h hu
  have N1 : Hid (MBox 26 (w.alloc (.cells #[.int .i64 b, .int .i64 bt, v] 26)) w.heap.size #[.int .i64 b, .int .i64 bt, v]) := MBox.start _ w _
  have B1 : Hid (Below w.heap.size w (w.alloc (.cells #[.int .i64 b, .int .i64 bt, v] 26))) := bel_nw _ _
  have c1 := N1.out.cells
  clear h hb hi
  cases hp : placeB b l i with
  | none =>
    rw [hp] at C
    have E : Hid (entsB b l i = []) := entsB_none hp
    clear hp
    go_enter Try.func26, Try.ntmps26
    go_wp2_with fail
    refine (C.out _ B1.out).mono ?_
    rintro e w1 ⟨rfl, b1⟩
    have B2 : Hid (Below w.heap.size w w1) := Below.and B1.out b1
    clear b1
    go_wp2
    go_ret
    exact ⟨_, rfl, by rw [E.out]; exact World.ownsRow_nil _ _ _ _, B2.out⟩
  | some n =>
    rw [hp] at C
    have E : Hid (entsB b l i = l.drop n) := entsB_some hp
    have hn := (placeB_some hp).1
    clear hp
    go_enter Try.func26, Try.ntmps26
    go_wp2_with fail
    refine (C.out _ B1.out).mono ?_
    rintro e w1 ⟨rfl, b1⟩
    have B2 : Hid (Below w.heap.size w w1) := Below.and B1.out b1
    have N2 := N1.out.step b1
    clear b1 c1
    have c1 := N2.cells
    clear N2
    go_wp2_with fail
    refine (tailOf_any v l n w1 (R0.out _ B2.out) (by omega)).mono ?_
    rintro e w2 ⟨v2, rfl, r2, rfl⟩
    obtain ⟨a2, q2, hv2, -⟩ := r2.len
    have R2 : Hid (Row (w2.alloc (.cells #[v2] 24)) v2 (l.drop n).length (flatE (l.drop n))) := r2.below (bel_nw _ _)
    have HX : Hid ((w2.alloc (.cells #[v2] 24)).heap[w2.heap.size]? = some (.cells #[v2] 24 (0, 0))) := heap_alloc_new _ _
    have B3 : Hid (Below w.heap.size w (w2.alloc (.cells #[v2] 24))) := Below.and B2.out (bel_nw _ _)
    subst hv2
    clear r2
    generalize hld : (l.drop n).length = ld at *
    have HLD : Hid _ := hld
    have hld2 : ld ≤ 2097152 := by rw [← hld, List.length_drop]; omega
    clear hld
    go_wp2_with fail
    refine (joined_one w2.heap.size 24 (.slice a2 ld q2) (l.drop n) _ HX.out (by rw [HLD.out]; exact R2.out) (by rw [HLD.out]; exact hld2)).mono ?_
    rintro e w3 ⟨v3, rfl, o3, b3⟩
    have FIN : Hid (w3.ownsRow w.heap.size 39 6 v3 (entsB b l i).length (flatE (entsB b l i)) ∧ Below w.heap.size w w3) := by
      show _ ∧ _
      rw [E.out]
      exact ⟨owns_mono o3 B3.out.size, Below.and B3.out b3⟩
    clear o3 b3
    go_wp2
    go_ret
    exact ⟨_, rfl, FIN.out⟩

end Go.Proofs.Yteegcblndbljlaa
