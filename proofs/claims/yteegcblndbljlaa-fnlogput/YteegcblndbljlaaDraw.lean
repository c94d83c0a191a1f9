/-
  The model's drawing of numbers off the bytes of a code: what a cursor is, and that every draw returns.
-/
import Derived.Test.YteegcblndbljlaaAppend
import Derived.Deep.QuietTactic
import Derived.BigQuiet
import Derived.Deep.RegionWith
namespace Go.Proofs.Yteegcblndbljlaa
open Go.RowKit

/-- A CURSOR LIES AT BLOCK C. -/
def Cur (w : World) (C : Nat) : Prop :=
  ∃ (a : Option Addr) (n cap b off : Nat) (bs : List Int) (i : Nat) (h : Int), w.heap[C]? = some (.cells #[.slice a n cap, .int .i64 i, .int .i64 h] 87 (0, 0)) ∧ n ≤ 1048576 ∧ i ≤ n ∧ (0 < n → a = some ⟨b, off, none⟩ ∧ b < C) ∧
    (∀ j, j < n → w.cell? ⟨b, off + j, none⟩ = some (.int .u8 (bs.getD j 0))) ∧ (∀ j, 0 ≤ bs.getD j 0 ∧ bs.getD j 0 ≤ 255)

theorem cell_chg {F : Nat → Prop} {w w' : World} {b o : Nat} {v : Value} (h : w.cell? ⟨b, o, none⟩ = some v) (hc : Chg F w w') (hF : ¬ F b) : w'.cell? ⟨b, o, none⟩ = some v := by
  rw [← h]; exact World.cell?_of_block (hc.block b (cell_lt h) hF)
theorem Cur.chg {F : Nat → Prop} {w w' : World} {C : Nat} (h : Cur w C) (hc : Chg F w w') (hF : ∀ g, F g → C < g) : Cur w' C := by
  obtain ⟨a, n, cap, b, off, bs, i, h, h1, h2, h3, h4, h5, h6⟩ := h
  refine ⟨a, n, cap, b, off, bs, i, h, row_chg h1 hc (fun e => Nat.lt_irrefl _ (hF _ e)), h2, h3, h4, fun j hj => cell_chg (h5 j hj) hc (fun e => ?_), h6⟩
  have := hF _ e
  have := (h4 (by omega)).2
  omega
theorem Cur.below {w w' : World} {C : Nat} (h : Cur w C) (hb : Below w.heap.size w w') : Cur w' C := h.chg (Chg.of_below (F := fun _ => False) hb) (fun _ e => e.elim)

theorem and255 (n : Int) : bits .and .i64 n 255 = n % 256 := by
  have h255 : (BitVec.ofInt 64 255).toNat = 2 ^ 8 - 1 := by decide
  have key : (BitVec.ofInt 64 n &&& BitVec.ofInt 64 255).toNat = (n % ((2 ^ 64 : Nat) : Int)).toNat % 2 ^ 8 := by
    rw [BitVec.toNat_and, BitVec.toNat_ofInt, h255, Nat.and_two_pow_sub_one_eq_mod]
  show IntKind.i64.wrap ((BitVec.ofInt 64 n &&& BitVec.ofInt 64 255).toNat : Nat) = n % 256
  rw [key, IntKind.wrap_i64]
  omega
theorem and255_in (n : Int) : 0 ≤ bits .and .i64 n 255 ∧ bits .and .i64 n 255 ≤ 255 := by rw [and255]; omega

theorem Cur.store2 {w : World} {C : Nat} (h : Cur w C) (x : Int) (q : Nat) : Cur ((w.setCell ⟨C, 2, none⟩ (.int .i64 x)).drewN q) C ∧ Chg (fun g => g = C) w ((w.setCell ⟨C, 2, none⟩ (.int .i64 x)).drewN q) := by
  obtain ⟨a, n, cap, b, off, bs, i, h, h1, h2, h3, h4, h5, h6⟩ := h
  have hc : Chg (fun g => g = C) w (w.setCell ⟨C, 2, none⟩ (.int .i64 x)) := Chg.setAt (F := fun g => g = C) (Chg.refl _ _) _ _ rfl _
  refine ⟨⟨a, n, cap, b, off, bs, i, x, ?_, h2, h3, h4, fun j hj => ?_, h6⟩, hc.drewN q⟩
  · exact heap_setCell_same w C 2 _ 87 (.int .i64 x) h1
  · have := h5 j hj
    rw [← this]
    exact World.cell?_of_block (hc.block b (cell_lt this) (Nat.ne_of_lt (h4 (by omega)).2))
theorem Cur.store1 {w : World} {C : Nat} (h : Cur w C) {i : Nat} (hi : w.cell? ⟨C, 1, none⟩ = some (.int .i64 i)) (hlt : ∀ a n cap, w.cell? ⟨C, 0, none⟩ = some (.slice a n cap) → i < n) :
    Cur (w.setCell ⟨C, 1, none⟩ (.int .i64 (i + 1))) C ∧ Chg (fun g => g = C) w (w.setCell ⟨C, 1, none⟩ (.int .i64 (i + 1))) := by
  obtain ⟨a, n, cap, b, off, bs, i', h, h1, h2, h3, h4, h5, h6⟩ := h
  have hii : i' = i := by
    rw [cell_of_cells h1] at hi
    simp at hi
    omega
  subst hii
  have hn := hlt a n cap (by rw [cell_of_cells h1]; rfl)
  have hc : Chg (fun g => g = C) w (w.setCell ⟨C, 1, none⟩ (.int .i64 (i' + 1))) := Chg.setAt (F := fun g => g = C) (Chg.refl _ _) _ _ rfl _
  refine ⟨⟨a, n, cap, b, off, bs, i' + 1, h, ?_, h2, by omega, h4, fun j hj => ?_, h6⟩, hc⟩
  · exact heap_setCell_same w C 1 _ 87 (.int .i64 (i' + 1)) h1
  · have := h5 j hj
    rw [← this]
    exact World.cell?_of_block (hc.block b (cell_lt this) (Nat.ne_of_lt (h4 (by omega)).2))

set_option maxRecDepth 100000 in
set_option maxHeartbeats 1000000 in
theorem l1Byte_any (C : Nat) (w : World) (hc : Cur w C) :
    Calls Try.prog 67 #[.pointer (some ⟨C, 0, none⟩)] w fun e w' => ∃ x : Int, e = .returned (.int .i64 x) ∧ 0 ≤ x ∧ x ≤ 255 ∧ Cur w' C ∧ Chg (fun g => g = C) w w' := by
  have CU : Hid (Cur w C) := hc
  obtain ⟨a, n, cap, b, off, bs, i, h, h1, h2, h3, h4, h5, h6⟩ := hc
  have c0 : w.cell? ⟨C, 0, none⟩ = some (.slice a n cap) := by rw [cell_of_cells h1]; rfl
  have c1 : w.cell? ⟨C, 1, none⟩ = some (.int .i64 i) := by rw [cell_of_cells h1]; rfl
  have c2 : w.cell? ⟨C, 2, none⟩ = some (.int .i64 h) := by rw [cell_of_cells h1]; rfl
  have f1 : w.frozen? ⟨C, 1, none⟩ = false := frozen_of_cells h1
  have f2 : w.frozen? ⟨C, 2, none⟩ = false := frozen_of_cells h1
  have FIN1 : Hid (∀ H Q, Cur ((w.setCell ⟨C, 2, none⟩ (.int .i64 H)).drewN Q) C ∧ Chg (fun g => g = C) w ((w.setCell ⟨C, 2, none⟩ (.int .i64 H)).drewN Q)) := fun H Q => CU.out.store2 H Q
  have FIN2 : Hid (i < n → ∀ H Q, Cur (((w.setCell ⟨C, 2, none⟩ (.int .i64 H)).drewN Q).setCell ⟨C, 1, none⟩ (.int .i64 (i + 1))) C ∧ Chg (fun g => g = C) w (((w.setCell ⟨C, 2, none⟩ (.int .i64 H)).drewN Q).setCell ⟨C, 1, none⟩ (.int .i64 (i + 1)))) := by
    intro hin H Q
    obtain ⟨r1, r2⟩ := CU.out.store2 H Q
    have hh : ((w.setCell ⟨C, 2, none⟩ (.int .i64 H)).drewN Q).heap[C]? = some (.cells #[.slice a n cap, .int .i64 i, .int .i64 H] 87 (0, 0)) := heap_setCell_same w C 2 _ 87 (.int .i64 H) h1
    obtain ⟨q1, q2⟩ := r1.store1 (i := i) (by rw [cell_of_cells hh]; rfl) (fun a' n' cap' he => by rw [cell_of_cells hh] at he; simp at he; omega)
    exact ⟨q1, r2.trans q2 (fun _ _ e => e)⟩
  clear h1
  by_cases hin : i < n
  · obtain ⟨ha, hbC⟩ := h4 (by omega)
    subst ha
    have d0 := h5 i hin
    obtain ⟨hb0, hb1⟩ := h6 i
    generalize bs.getD i 0 = y at *
    have hin' : (i : Int) < (n : Int) := by omega
    have hdec : decide ((i : Int) < (n : Int)) = true := by simpa using hin
    clear h4 h5 h6
    go_enter Try.func67, Try.ntmps67
    go_wp2
    go_quiet (fail)
    generalize hH : wrap64 (wrap64 (h * 6364136223846793005) + 1442695040888963407) = H
    clear hH
    have hx := and255_in (bits BinOp.xor IntKind.i64 (H / 8589934592) (H / 35184372088832))
    generalize bits BinOp.and IntKind.i64 (bits BinOp.xor IntKind.i64 (H / 8589934592) (H / 35184372088832)) 255 = x0 at *
    obtain ⟨hx0, hx1⟩ := hx
    have e0 : (w.setCell ⟨C, 2, none⟩ (.int .i64 H)).cell? ⟨b, off + i, none⟩ = some (.int .u8 y) := by
      rw [← d0]; exact World.cell?_of_block (heap_setCell_other _ _ _ _ (Nat.ne_of_lt hbC))
    go_wp2
    go_quiet (fail)
    go_wp2
    go_quiet (fail)
    generalize hX : bits BinOp.and IntKind.i64 (x0 + y) 255 = x1
    have hx1' := and255_in (x0 + y)
    rw [hX] at hx1'
    clear hX
    go_wp2
    go_ret
    exact ⟨x1, rfl, hx1'.1, hx1'.2, (FIN2.out hin _ _).1, (FIN2.out hin _ _).2⟩
  · have hin' : ¬ (i : Int) < (n : Int) := by omega
    have hdec : decide ((i : Int) < (n : Int)) = false := by simpa using hin
    clear h4 h5 h6
    go_enter Try.func67, Try.ntmps67
    go_wp2
    go_quiet (fail)
    generalize hH : wrap64 (wrap64 (h * 6364136223846793005) + 1442695040888963407) = H
    clear hH
    have hx := and255_in (bits BinOp.xor IntKind.i64 (H / 8589934592) (H / 35184372088832))
    generalize bits BinOp.and IntKind.i64 (bits BinOp.xor IntKind.i64 (H / 8589934592) (H / 35184372088832)) 255 = x0 at *
    obtain ⟨hx0, hx1⟩ := hx
    go_wp2
    go_quiet (fail)
    go_wp2
    go_ret
    exact ⟨x0, rfl, hx0, hx1, (FIN1.out _ _).1.below (below_drewN (Below.refl _ _) _), (FIN1.out _ _).2.drewN _⟩

set_option maxRecDepth 100000 in
set_option maxHeartbeats 1000000 in
theorem l1Below_any (C : Nat) (n : Int) (w : World) (hc : Cur w C) (hn : n ≤ 1000000000) :
    Calls Try.prog 48 #[.pointer (some ⟨C, 0, none⟩), .int .i64 n] w fun e w' => ∃ x : Int, e = .returned (.int .i64 x) ∧ 0 ≤ x ∧ (0 < n → x < n) ∧ (n ≤ 0 → x = 0) ∧ Cur w' C ∧ Chg (fun g => g = C) w w' := by
  by_cases h0 : n ≤ 0
  · go_enter Try.func48, Try.ntmps48
    go_wp2
    go_ret
    exact ⟨0, rfl, by omega, by omega, fun _ => rfl, hc, Chg.refl _ _⟩
  · by_cases h1 : n ≤ 256
    · have CU : Hid (Cur w C) := hc
      clear hc
      go_enter Try.func48, Try.ntmps48
      go_wp2_with fail
      refine (l1Byte_any C _ CU.out).mono ?_
      rintro e w1 ⟨x, rfl, hx0, hx1, c1, g1⟩
      have FIN : Hid _ := And.intro c1 g1
      clear c1 g1
      have hnn : 0 < n := by omega
      go_wp2
      go_ret
      exact ⟨x % n, rfl, Int.emod_nonneg _ (by omega), fun _ => Int.emod_lt_of_pos _ hnn, by omega, FIN.out.1, FIN.out.2⟩
    · have CU : Hid (Cur w C) := hc
      clear hc
      go_enter Try.func48, Try.ntmps48
      go_wp2_with fail
      refine (l1Byte_any C _ CU.out).mono ?_
      rintro e w1 ⟨x, rfl, hx0, hx1, c1, g1⟩
      have F1 : Hid _ := And.intro c1 g1
      clear c1 g1
      go_wp2_with fail
      refine (l1Byte_any C _ F1.out.1).mono ?_
      rintro e w2 ⟨y, rfl, hy0, hy1, c2, g2⟩
      have F2 : Hid _ := And.intro c2 (F1.out.2.trans g2 (fun _ _ e => e))
      clear c2 g2
      go_wp2_with fail
      refine (l1Byte_any C _ F2.out.1).mono ?_
      rintro e w3 ⟨z, rfl, hz0, hz1, c3, g3⟩
      have F3 : Hid _ := And.intro c3 (F2.out.2.trans g3 (fun _ _ e => e))
      clear c3 g3
      go_wp2_with fail
      refine (l1Byte_any C _ F3.out.1).mono ?_
      rintro e w4 ⟨u, rfl, hu0, hu1, c4, g4⟩
      have F4 : Hid _ := And.intro c4 (F3.out.2.trans g4 (fun _ _ e => e))
      clear c4 g4
      have hnn : 0 < n := by omega
      go_wp2
      go_ret
      exact ⟨(x * 16777216 + y * 65536 + z * 256 + u) % n, rfl, Int.emod_nonneg _ (by omega), fun _ => Int.emod_lt_of_pos _ hnn, by omega, F4.out.1, F4.out.2⟩

set_option maxHeartbeats 1000000 in
theorem l1Once_any (C : Nat) (n : Int) (w : World) (hc : Cur w C) (hn : n ≤ 1000000000) :
    Calls Try.prog 47 #[.pointer (some ⟨C, 0, none⟩), .int .i64 n] w fun e w' => ∃ x : Bool, e = .returned (.bool x) ∧ Cur w' C ∧ Chg (fun g => g = C) w w' := by
  go_enter Try.func47, Try.ntmps47
  go_wp2_with fail
  refine (l1Below_any C n _ hc hn).mono ?_
  rintro e w1 ⟨x, rfl, _, _, _, c1, g1⟩
  have F1 : Hid _ := And.intro c1 g1
  clear c1 g1
  go_wp2
  go_ret
  exact ⟨x == 0, rfl, F1.out.1, F1.out.2⟩

/-- a pick off a list of numbers that was just laid -/
theorem l1PickInt_any (C : Nat) (b : Nat) (zs : List Int) (hz : 0 < zs.length) (hz2 : zs.length ≤ 1000) (w : World) (hc : Cur w C) (hb : w.heap[b]? = some (.cells (zs.map (Value.int .i64)).toArray 3 (0, 0))) (hbC : b ≠ C) :
    Calls Try.prog 66 #[.pointer (some ⟨C, 0, none⟩), .slice (some ⟨b, 0, none⟩) zs.length zs.length] w fun e w' => ∃ x : Int, e = .returned (.int .i64 x) ∧ x ∈ zs ∧ Cur w' C ∧ Chg (fun g => g = C) w w' := by
  have HB : Hid _ := hb
  clear hb
  go_enter Try.func66, Try.ntmps66
  go_wp2_with fail
  refine (l1Below_any C zs.length _ hc (by omega)).mono ?_
  rintro e w1 ⟨x, rfl, hx0, hx1, _, c1, g1⟩
  have hxl := hx1 (by omega)
  obtain ⟨i, rfl⟩ := Int.eq_ofNat_of_zero_le hx0
  have hi : i < zs.length := by omega
  have d0 : w1.cell? ⟨b, i, none⟩ = some (.int .i64 (zs.getD i 0)) := by
    refine cell_chg ?_ g1 hbC
    rw [cell_of_cells HB.out]
    simp [List.getD, hi]
  have hm : zs.getD i 0 ∈ zs := by
    rw [List.getD, List.getElem?_eq_getElem hi]; exact List.getElem_mem hi
  generalize zs.getD i 0 = y at *
  have F1 : Hid _ := And.intro hm (And.intro c1 g1)
  clear c1 g1 hm hx1
  go_wp2
  go_ret
  exact ⟨y, rfl, F1.out.1, F1.out.2.1, F1.out.2.2⟩

end Go.Proofs.Yteegcblndbljlaa
