/-
  The model's drawing of keys, messages and maps: every draw returns, in memory of its own.
-/
import Derived.Test.YteegcblndbljlaaDraw
import Derived.Test.YteegcblndbljlaaSpecPut
import Derived.Test.YteegcblndbljlaaMsgs
namespace Go.Proofs.Yteegcblndbljlaa
open Go.RowKit

/-- A CODE: a row of bytes. -/
def Code8 (w : World) (v : Value) (bs : List Int) : Prop := Row w v bs.length (bs.map (Value.int .u8)) ∧ ∀ j, 0 ≤ bs.getD j 0 ∧ bs.getD j 0 ≤ 255
theorem Code8.below {w w' : World} {v : Value} {bs : List Int} (h : Code8 w v bs) (hb : Below w.heap.size w w') : Code8 w' v bs := ⟨h.1.below hb, h.2⟩

set_option maxRecDepth 100000 in
set_option maxHeartbeats 1000000 in
theorem l1New_any (v : Value) (bs : List Int) (w : World) (hc : Code8 w v bs) (hn : bs.length ≤ 1048576) :
    Calls Try.prog 44 #[v] w fun e w' => e = .returned (.pointer (some ⟨w.heap.size, 0, none⟩)) ∧ Cur w' w.heap.size ∧ w.heap.size < w'.heap.size ∧ Below w.heap.size w w' := by
  obtain ⟨⟨a, b, off, cap, rfl, hcap, hmax, ha, hk, _⟩, hb⟩ := hc
  have hcell : ∀ j, j < bs.length → w.cell? ⟨b, off + j, none⟩ = some (.int .u8 (bs.getD j 0)) := fun j hj => hk j _ (by simp [hj, List.getD])
  have FIN : Hid (∀ x, Cur (w.alloc (.cells #[.slice a bs.length cap, .int .i64 0, .int .i64 x] 87)) w.heap.size) := by
    intro x
    refine ⟨a, bs.length, cap, b, off, bs, 0, x, heap_alloc_new _ _, hn, Nat.zero_le _, fun h0 => ⟨ha h0, ?_⟩, fun j hj => ?_, hb⟩
    · have := cell_lt (hcell 0 h0); simp at this; omega
    · have := hcell j hj
      rw [← this]
      exact ((Below.refl _ _).alloc (Nat.le_refl _) _).cell (cell_lt this)
  unfold maxLen at hmax
  clear hk
  go_enter Try.func44, Try.ntmps44
  go_wp2
  go_loop [3, 4] (fun h i => ∃ (k : Nat) (x : Int), k ≤ bs.length ∧ k ≤ 4000 ∧ i = .int .i64 k ∧ h = .int .i64 x) (fun _ i => 4000 - (intOf i).toNat)
  case atStart => exact ⟨0, _, Nat.zero_le _, Nat.zero_le _, rfl, rfl⟩
  case round =>
    obtain ⟨k, x, hk1, hk2, rfl, rfl⟩ := hrel
    by_cases hlt : k < bs.length
    · by_cases hlt2 : k < 4000
      · have hal := ha (by omega)
        subst hal
        have d0 := hcell k hlt
        obtain ⟨hy0, hy1⟩ := hb k
        generalize bs.getD k 0 = y at *
        clear hcell hb
        go_wp2
        go_round
        case rel => exact ⟨k + 1, _, by omega, by omega, by go_num, rfl⟩
        case measure => simp [intOf]; omega
      · clear hcell hb
        go_wp2
        go_ret
        exact ⟨rfl, FIN.out _, by simp, (Below.refl _ _).alloc (Nat.le_refl _) _⟩
    · clear hcell hb
      go_wp2
      go_ret
      exact ⟨rfl, FIN.out _, by simp, (Below.refl _ _).alloc (Nat.le_refl _) _⟩

theorem Cur.lt {w : World} {C : Nat} (h : Cur w C) : C < w.heap.size := by
  obtain ⟨a, n, cap, b, off, bs, i, h, h1, _⟩ := h
  exact (Array.getElem?_eq_some_iff.1 h1).1
theorem Cur.alloc {w : World} {C : Nat} (h : Cur w C) (o : Obj) : Cur (w.alloc o) C := h.below ((Below.refl _ _).alloc (Nat.le_refl _) o)

set_option maxRecDepth 100000 in
set_option maxHeartbeats 1000000 in
theorem l1DrawKey_any (C : Nat) (w : World) (hc : Cur w C) :
    Calls Try.prog 78 #[.pointer (some ⟨C, 0, none⟩)] w fun e w' => ∃ x : Int, e = .returned (.int .i64 x) ∧ 0 ≤ x ∧ x ≤ 999 ∧ Cur w' C ∧ Chg (fun g => g = C) w w' := by
  go_enter Try.func78, Try.ntmps78
  go_wp2_with fail
  refine (l1Once_any C 15 _ hc (by decide)).mono ?_
  rintro e w1 ⟨x, rfl, c1, g1⟩
  have F1 : Hid _ := And.intro c1 g1
  have hlt := c1.lt
  clear c1 g1
  cases x
  · go_wp2_with fail
    refine (l1Below_any C 30 _ F1.out.1 (by decide)).mono ?_
    rintro e w2 ⟨y, rfl, hy0, hy1, _, c2, g2⟩
    have F2 : Hid _ := And.intro c2 (F1.out.2.trans g2 (fun _ _ e => e))
    clear c2 g2
    go_wp2
    go_ret
    exact ⟨y, rfl, hy0, by have := hy1 (by decide); omega, F2.out.1, F2.out.2⟩
  · go_wp2_with fail
    refine (l1PickInt_any C w1.heap.size [0, 999, 500] (by decide) (by decide) _ (F1.out.1.alloc _) (heap_alloc_new _ _) (by omega)).mono ?_
    rintro e w2 ⟨y, rfl, hy, c2, g2⟩
    have F2 : Hid _ := And.intro c2 ((F1.out.2.alloc _).trans g2 (fun _ _ e => e))
    clear c2 g2
    go_wp2
    go_ret
    refine ⟨y, rfl, ?_, ?_, F2.out.1, F2.out.2⟩ <;> (simp at hy; omega)

end Go.Proofs.Yteegcblndbljlaa
