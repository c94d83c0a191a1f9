/-
  The model's drawing of numbers off the bytes of a code: what a cursor is, and that every draw returns.
  The model's drawing of keys, messages and maps: every draw returns, in memory of its own.
  The model's drawing of messages.
  Regions that draw their order and whose callees make memory of their own but write into none that was there: one walk in the text's order, over the class of all later worlds.
  Contracts of the model's Shrink and of what it asks.
-/
import Derived.Test.YtbmcojelgbkafaaDoorOfNodes4
import Derived.Deep.QuietTactic
import Derived.BigQuiet
import Derived.Deep.RegionWith
import Derived.Test.YtbmcojelgbkafaaDoorOfNodes7
import Derived.Test.YtbmcojelgbkafaaDoorOfNodes1
import Derived.Test.YtbmcojelgbkafaaDoorOfNodes5
import Derived.Test.YtbmcojelgbkafaaDoorOfNodes8
namespace Go.Proofs.YtbmcojelgbkafaaDoor
set_option maxRecDepth 100000
set_option maxHeartbeats 8000000
section
open Go.RowKit

def Cur (w : World) (C : Nat) : Prop :=
 ∃ (a : Option Addr) (n cap b off : Nat) (bs : List Int) (i : Nat) (h : Int), w.heap[C]? = some (.cells #[.slice a n cap, .int .i64 i, .int .i64 h] 65 (0, 0)) ∧ n ≤ 1048576 ∧ i ≤ n ∧ (0 < n → a = some ⟨b, off, none⟩ ∧ b < C) ∧
  (∀ j, j < n → w.cell? ⟨b, off + j, none⟩ = some (.int .u8 (bs.getD j 0))) ∧ (∀ j, 0 ≤ bs.getD j 0 ∧ bs.getD j 0 ≤ 255)

theorem cell_chg {F : Nat → Prop} {w w' : World} {b o : Nat} {v : Value} (h : w.cell? ⟨b, o, none⟩ = some v) (hc : Chg F w w') (hF : ¬ F b) : w'.cell? ⟨b, o, none⟩ = some v := by
 rw [← h]; exact World.cell?_of_block (hc.block b (cell_lt h) hF)
theorem Cur.chg {F : Nat → Prop} {w w' : World} {C : Nat} (h : Cur w C) (hc : Chg F w w') (hF : ∀ g, F g → C < g) : Cur w' C := by
 obtain ⟨a, n, cap, b, off, bs, i, h, h1, h2, h3, h4, h5, h6⟩ := h
 refine ⟨a, n, cap, b, off, bs, i, h, row_chg h1 hc (fun e => Nat.lt_irrefl _ (hF _ e)), h2, h3, h4, fun j hj => cell_chg (h5 j hj) hc (fun e => ?_), h6⟩
 have := hF _ e
 have := (h4 (by omega)).2
 omega
theorem Cur.below {w w' : World} {C : Nat} (h : Cur w C) (hb : Below w.heap.size w w') : Cur w' C := h.chg (Chg.of_below (F := fun _ => False) hb) (fun _ e => e.elim)

theorem and255 (n : Int) : bits .and .i64 n 255 = n % 256 := by
 have h255 : (BitVec.ofInt 64 255).toNat = 2 ^ 8 - 1 := by decide
 have key : (BitVec.ofInt 64 n &&& BitVec.ofInt 64 255).toNat = (n % ((2 ^ 64 : Nat) : Int)).toNat % 2 ^ 8 := by
  rw [BitVec.toNat_and, BitVec.toNat_ofInt, h255, Nat.and_two_pow_sub_one_eq_mod]
 show IntKind.i64.wrap ((BitVec.ofInt 64 n &&& BitVec.ofInt 64 255).toNat : Nat) = n % 256
 rw [key, IntKind.wrap_i64]
 omega
theorem and255_in (n : Int) : 0 ≤ bits .and .i64 n 255 ∧ bits .and .i64 n 255 ≤ 255 := by rw [and255]; omega

theorem Cur.store2 {w : World} {C : Nat} (h : Cur w C) (x : Int) (q : Nat) : Cur ((w.setCell ⟨C, 2, none⟩ (.int .i64 x)).drewN q) C ∧ Chg (fun g => g = C) w ((w.setCell ⟨C, 2, none⟩ (.int .i64 x)).drewN q) := by
 obtain ⟨a, n, cap, b, off, bs, i, h, h1, h2, h3, h4, h5, h6⟩ := h
 have hc : Chg (fun g => g = C) w (w.setCell ⟨C, 2, none⟩ (.int .i64 x)) := Chg.setAt (F := fun g => g = C) (Chg.refl _ _) _ _ rfl _
 refine ⟨⟨a, n, cap, b, off, bs, i, x, ?_, h2, h3, h4, fun j hj => ?_, h6⟩, hc.drewN q⟩
 ·exact heap_setCell_same w C 2 _ 65 (.int .i64 x) h1
 ·have := h5 j hj
  rw [← this]
  exact World.cell?_of_block (hc.block b (cell_lt this) (Nat.ne_of_lt (h4 (by omega)).2))
theorem Cur.store1 {w : World} {C : Nat} (h : Cur w C) {i : Nat} (hi : w.cell? ⟨C, 1, none⟩ = some (.int .i64 i)) (hlt : ∀ a n cap, w.cell? ⟨C, 0, none⟩ = some (.slice a n cap) → i < n) :
  Cur (w.setCell ⟨C, 1, none⟩ (.int .i64 (i + 1))) C ∧ Chg (fun g => g = C) w (w.setCell ⟨C, 1, none⟩ (.int .i64 (i + 1))) := by
 obtain ⟨a, n, cap, b, off, bs, i', h, h1, h2, h3, h4, h5, h6⟩ := h
 have hii : i' = i := by
  rw [cell_of_cells h1] at hi
  simp at hi
  omega
 subst hii
 have hn := hlt a n cap (by rw [cell_of_cells h1]; rfl)
 have hc : Chg (fun g => g = C) w (w.setCell ⟨C, 1, none⟩ (.int .i64 (i' + 1))) := Chg.setAt (F := fun g => g = C) (Chg.refl _ _) _ _ rfl _
 refine ⟨⟨a, n, cap, b, off, bs, i' + 1, h, ?_, h2, by omega, h4, fun j hj => ?_, h6⟩, hc⟩
 ·exact heap_setCell_same w C 1 _ 65 (.int .i64 (i' + 1)) h1
 ·have := h5 j hj
  rw [← this]
  exact World.cell?_of_block (hc.block b (cell_lt this) (Nat.ne_of_lt (h4 (by omega)).2))

theorem l1Byte_any (C : Nat) (w : World) (hc : Cur w C) :
  Calls Tryd.prog 38 #[.pointer (some ⟨C, 0, none⟩)] w fun e w' => ∃ x : Int, e = .returned (.int .i64 x) ∧ 0 ≤ x ∧ x ≤ 255 ∧ Cur w' C ∧ Chg (fun g => g = C) w w' := by
 have CU : Hid (Cur w C) := hc
 obtain ⟨a, n, cap, b, off, bs, i, h, h1, h2, h3, h4, h5, h6⟩ := hc
 have c0 : w.cell? ⟨C, 0, none⟩ = some (.slice a n cap) := by rw [cell_of_cells h1]; rfl
 have c1 : w.cell? ⟨C, 1, none⟩ = some (.int .i64 i) := by rw [cell_of_cells h1]; rfl
 have c2 : w.cell? ⟨C, 2, none⟩ = some (.int .i64 h) := by rw [cell_of_cells h1]; rfl
 have f1 : w.frozen? ⟨C, 1, none⟩ = false := frozen_of_cells h1
 have f2 : w.frozen? ⟨C, 2, none⟩ = false := frozen_of_cells h1
 have FIN1 : Hid (∀ H Q, Cur ((w.setCell ⟨C, 2, none⟩ (.int .i64 H)).drewN Q) C ∧ Chg (fun g => g = C) w ((w.setCell ⟨C, 2, none⟩ (.int .i64 H)).drewN Q)) := fun H Q => CU.out.store2 H Q
 have FIN2 : Hid (i < n → ∀ H Q, Cur (((w.setCell ⟨C, 2, none⟩ (.int .i64 H)).drewN Q).setCell ⟨C, 1, none⟩ (.int .i64 (i + 1))) C ∧ Chg (fun g => g = C) w (((w.setCell ⟨C, 2, none⟩ (.int .i64 H)).drewN Q).setCell ⟨C, 1, none⟩ (.int .i64 (i + 1)))) := by
  intro hin H Q
  obtain ⟨r1, r2⟩ := CU.out.store2 H Q
  have hh : ((w.setCell ⟨C, 2, none⟩ (.int .i64 H)).drewN Q).heap[C]? = some (.cells #[.slice a n cap, .int .i64 i, .int .i64 H] 65 (0, 0)) := heap_setCell_same w C 2 _ 65 (.int .i64 H) h1
  obtain ⟨q1, q2⟩ := r1.store1 (i := i) (by rw [cell_of_cells hh]; rfl) (fun a' n' cap' he => by rw [cell_of_cells hh] at he; simp at he; omega)
  exact ⟨q1, r2.trans q2 (fun _ _ e => e)⟩
 clear h1
 by_cases hin : i < n
 ·obtain ⟨ha, hbC⟩ := h4 (by omega)
  subst ha
  have d0 := h5 i hin
  obtain ⟨hb0, hb1⟩ := h6 i
  generalize bs.getD i 0 = y at *
  have hin' : (i : Int) < (n : Int) := by omega
  have hdec : decide ((i : Int) < (n : Int)) = true := by simpa using hin
  clear h4 h5 h6
  go_enter Tryd.func38, Tryd.ntmps38
  go_wp2
  go_quiet (fail)
  generalize hH : wrap64 (wrap64 (h * 6364136223846793005) + 1442695040888963407) = H
  clear hH
  have hx := and255_in (bits BinOp.xor IntKind.i64 (H / 8589934592) (H / 35184372088832))
  generalize bits BinOp.and IntKind.i64 (bits BinOp.xor IntKind.i64 (H / 8589934592) (H / 35184372088832)) 255 = x0 at *
  obtain ⟨hx0, hx1⟩ := hx
  have e0 : (w.setCell ⟨C, 2, none⟩ (.int .i64 H)).cell? ⟨b, off + i, none⟩ = some (.int .u8 y) := by
   rw [← d0]; exact World.cell?_of_block (heap_setCell_other _ _ _ _ (Nat.ne_of_lt hbC))
  go_wp2
  go_quiet (fail)
  go_wp2
  go_quiet (fail)
  generalize hX : bits BinOp.and IntKind.i64 (x0 + y) 255 = x1
  have hx1' := and255_in (x0 + y)
  rw [hX] at hx1'
  clear hX
  go_wp2
  go_ret
  exact ⟨x1, rfl, hx1'.1, hx1'.2, (FIN2.out hin _ _).1, (FIN2.out hin _ _).2⟩
 ·have hin' : ¬ (i : Int) < (n : Int) := by omega
  have hdec : decide ((i : Int) < (n : Int)) = false := by simpa using hin
  clear h4 h5 h6
  go_enter Tryd.func38, Tryd.ntmps38
  go_wp2
  go_quiet (fail)
  generalize hH : wrap64 (wrap64 (h * 6364136223846793005) + 1442695040888963407) = H
  clear hH
  have hx := and255_in (bits BinOp.xor IntKind.i64 (H / 8589934592) (H / 35184372088832))
  generalize bits BinOp.and IntKind.i64 (bits BinOp.xor IntKind.i64 (H / 8589934592) (H / 35184372088832)) 255 = x0 at *
  obtain ⟨hx0, hx1⟩ := hx
  go_wp2
  go_quiet (fail)
  go_wp2
  go_ret
  exact ⟨x0, rfl, hx0, hx1, (FIN1.out _ _).1.below (below_drewN (Below.refl _ _) _), (FIN1.out _ _).2.drewN _⟩

theorem l1Below_any (C : Nat) (n : Int) (w : World) (hc : Cur w C) (hn : n ≤ 1000000000) :
  Calls Tryd.prog 24 #[.pointer (some ⟨C, 0, none⟩), .int .i64 n] w fun e w' => ∃ x : Int, e = .returned (.int .i64 x) ∧ 0 ≤ x ∧ (0 < n → x < n) ∧ (n ≤ 0 → x = 0) ∧ Cur w' C ∧ Chg (fun g => g = C) w w' := by
 by_cases h0 : n ≤ 0
 ·go_enter Tryd.func24, Tryd.ntmps24
  go_wp2
  go_ret
  exact ⟨0, rfl, by omega, by omega, fun _ => rfl, hc, Chg.refl _ _⟩
 ·by_cases h1 : n ≤ 256
  ·have CU : Hid (Cur w C) := hc
   clear hc
   go_enter Tryd.func24, Tryd.ntmps24
   go_wp2_with fail
   refine (l1Byte_any C _ CU.out).mono ?_
   rintro e w1 ⟨x, rfl, hx0, hx1, c1, g1⟩
   have FIN : Hid _ := And.intro c1 g1
   clear c1 g1
   have hnn : 0 < n := by omega
   go_wp2
   go_ret
   exact ⟨x % n, rfl, Int.emod_nonneg _ (by omega), fun _ => Int.emod_lt_of_pos _ hnn, by omega, FIN.out.1, FIN.out.2⟩
  ·have CU : Hid (Cur w C) := hc
   clear hc
   go_enter Tryd.func24, Tryd.ntmps24
   go_wp2_with fail
   refine (l1Byte_any C _ CU.out).mono ?_
   rintro e w1 ⟨x, rfl, hx0, hx1, c1, g1⟩
   have F1 : Hid _ := And.intro c1 g1
   clear c1 g1
   go_wp2_with fail
   refine (l1Byte_any C _ F1.out.1).mono ?_
   rintro e w2 ⟨y, rfl, hy0, hy1, c2, g2⟩
   have F2 : Hid _ := And.intro c2 (F1.out.2.trans g2 (fun _ _ e => e))
   clear c2 g2
   go_wp2_with fail
   refine (l1Byte_any C _ F2.out.1).mono ?_
   rintro e w3 ⟨z, rfl, hz0, hz1, c3, g3⟩
   have F3 : Hid _ := And.intro c3 (F2.out.2.trans g3 (fun _ _ e => e))
   clear c3 g3
   go_wp2_with fail
   refine (l1Byte_any C _ F3.out.1).mono ?_
   rintro e w4 ⟨u, rfl, hu0, hu1, c4, g4⟩
   have F4 : Hid _ := And.intro c4 (F3.out.2.trans g4 (fun _ _ e => e))
   clear c4 g4
   have hnn : 0 < n := by omega
   go_wp2
   go_ret
   exact ⟨(x * 16777216 + y * 65536 + z * 256 + u) % n, rfl, Int.emod_nonneg _ (by omega), fun _ => Int.emod_lt_of_pos _ hnn, by omega, F4.out.1, F4.out.2⟩

theorem l1Once_any (C : Nat) (n : Int) (w : World) (hc : Cur w C) (hn : n ≤ 1000000000) :
  Calls Tryd.prog 29 #[.pointer (some ⟨C, 0, none⟩), .int .i64 n] w fun e w' => ∃ x : Bool, e = .returned (.bool x) ∧ Cur w' C ∧ Chg (fun g => g = C) w w' := by
 go_enter Tryd.func29, Tryd.ntmps29
 go_wp2_with fail
 refine (l1Below_any C n _ hc hn).mono ?_
 rintro e w1 ⟨x, rfl, _, _, _, c1, g1⟩
 have F1 : Hid _ := And.intro c1 g1
 clear c1 g1
 go_wp2
 go_ret
 exact ⟨x == 0, rfl, F1.out.1, F1.out.2⟩

theorem l1PickInt_any (C : Nat) (b : Nat) (zs : List Int) (hz : 0 < zs.length) (hz2 : zs.length ≤ 1000) (w : World) (hc : Cur w C) (hb : w.heap[b]? = some (.cells (zs.map (Value.int .i64)).toArray 3 (0, 0))) (hbC : b ≠ C) :
  Calls Tryd.prog 25 #[.pointer (some ⟨C, 0, none⟩), .slice (some ⟨b, 0, none⟩) zs.length zs.length] w fun e w' => ∃ x : Int, e = .returned (.int .i64 x) ∧ x ∈ zs ∧ Cur w' C ∧ Chg (fun g => g = C) w w' := by
 have HB : Hid _ := hb
 clear hb
 go_enter Tryd.func25, Tryd.ntmps25
 go_wp2_with fail
 refine (l1Below_any C zs.length _ hc (by omega)).mono ?_
 rintro e w1 ⟨x, rfl, hx0, hx1, _, c1, g1⟩
 have hxl := hx1 (by omega)
 obtain ⟨i, rfl⟩ := Int.eq_ofNat_of_zero_le hx0
 have hi : i < zs.length := by omega
 have d0 : w1.cell? ⟨b, i, none⟩ = some (.int .i64 (zs.getD i 0)) := by
  refine cell_chg ?_ g1 hbC
  rw [cell_of_cells HB.out]
  simp [List.getD, hi]
 have hm : zs.getD i 0 ∈ zs := by
  rw [List.getD, List.getElem?_eq_getElem hi]; exact List.getElem_mem hi
 generalize zs.getD i 0 = y at *
 have F1 : Hid _ := And.intro hm (And.intro c1 g1)
 clear c1 g1 hm hx1
 go_wp2
 go_ret
 exact ⟨y, rfl, F1.out.1, F1.out.2.1, F1.out.2.2⟩
end
section
open Go.RowKit

def Code8 (w : World) (v : Value) (bs : List Int) : Prop := Row w v bs.length (bs.map (Value.int .u8)) ∧ ∀ j, 0 ≤ bs.getD j 0 ∧ bs.getD j 0 ≤ 255
theorem Code8.below {w w' : World} {v : Value} {bs : List Int} (h : Code8 w v bs) (hb : Below w.heap.size w w') : Code8 w' v bs := ⟨h.1.below hb, h.2⟩

theorem l1New_any (v : Value) (bs : List Int) (w : World) (hc : Code8 w v bs) (hn : bs.length ≤ 1048576) :
  Calls Tryd.prog 15 #[v] w fun e w' => e = .returned (.pointer (some ⟨w.heap.size, 0, none⟩)) ∧ Cur w' w.heap.size ∧ w.heap.size < w'.heap.size ∧ Below w.heap.size w w' := by
 obtain ⟨⟨a, b, off, cap, rfl, hcap, hmax, ha, hk, _⟩, hb⟩ := hc
 have hcell : ∀ j, j < bs.length → w.cell? ⟨b, off + j, none⟩ = some (.int .u8 (bs.getD j 0)) := fun j hj => hk j _ (by simp [hj, List.getD])
 have FIN : Hid (∀ x, Cur (w.alloc (.cells #[.slice a bs.length cap, .int .i64 0, .int .i64 x] 65)) w.heap.size) := by
  intro x
  refine ⟨a, bs.length, cap, b, off, bs, 0, x, heap_alloc_new _ _, hn, Nat.zero_le _, fun h0 => ⟨ha h0, ?_⟩, fun j hj => ?_, hb⟩
  ·have := cell_lt (hcell 0 h0); simp at this; omega
  ·have := hcell j hj
   rw [← this]
   exact ((Below.refl _ _).alloc (Nat.le_refl _) _).cell (cell_lt this)
 unfold maxLen at hmax
 clear hk
 go_enter Tryd.func15, Tryd.ntmps15
 go_wp2
 go_loop [3, 4] (fun h i => ∃ (k : Nat) (x : Int), k ≤ bs.length ∧ k ≤ 4000 ∧ i = .int .i64 k ∧ h = .int .i64 x) (fun _ i => 4000 - (intOf i).toNat)
 case atStart => exact ⟨0, _, Nat.zero_le _, Nat.zero_le _, rfl, rfl⟩
 case round =>
  obtain ⟨k, x, hk1, hk2, rfl, rfl⟩ := hrel
  by_cases hlt : k < bs.length
  ·by_cases hlt2 : k < 4000
   ·have hal := ha (by omega)
    subst hal
    have d0 := hcell k hlt
    obtain ⟨hy0, hy1⟩ := hb k
    generalize bs.getD k 0 = y at *
    clear hcell hb
    go_wp2
    go_round
    case rel => exact ⟨k + 1, _, by omega, by omega, by go_num, rfl⟩
    case measure => simp [intOf]; omega
   ·clear hcell hb
    go_wp2
    go_ret
    exact ⟨rfl, FIN.out _, by simp, (Below.refl _ _).alloc (Nat.le_refl _) _⟩
  ·clear hcell hb
   go_wp2
   go_ret
   exact ⟨rfl, FIN.out _, by simp, (Below.refl _ _).alloc (Nat.le_refl _) _⟩

theorem Cur.lt {w : World} {C : Nat} (h : Cur w C) : C < w.heap.size := by
 obtain ⟨a, n, cap, b, off, bs, i, h, h1, _⟩ := h
 exact (Array.getElem?_eq_some_iff.1 h1).1
theorem Cur.alloc {w : World} {C : Nat} (h : Cur w C) (o : Obj) : Cur (w.alloc o) C := h.below ((Below.refl _ _).alloc (Nat.le_refl _) o)

theorem l1DrawKey_any (C : Nat) (w : World) (hc : Cur w C) :
  Calls Tryd.prog 57 #[.pointer (some ⟨C, 0, none⟩)] w fun e w' => ∃ x : Int, e = .returned (.int .i64 x) ∧ 0 ≤ x ∧ x ≤ 999 ∧ Cur w' C ∧ Chg (fun g => g = C) w w' := by
 go_enter Tryd.func57, Tryd.ntmps57
 go_wp2_with fail
 refine (l1Once_any C 15 _ hc (by decide)).mono ?_
 rintro e w1 ⟨x, rfl, c1, g1⟩
 have F1 : Hid _ := And.intro c1 g1
 have hlt := c1.lt
 clear c1 g1
 cases x
 ·go_wp2_with fail
  refine (l1Below_any C 30 _ F1.out.1 (by decide)).mono ?_
  rintro e w2 ⟨y, rfl, hy0, hy1, _, c2, g2⟩
  have F2 : Hid _ := And.intro c2 (F1.out.2.trans g2 (fun _ _ e => e))
  clear c2 g2
  go_wp2
  go_ret
  exact ⟨y, rfl, hy0, by have := hy1 (by decide); omega, F2.out.1, F2.out.2⟩
 ·go_wp2_with fail
  refine (l1PickInt_any C w1.heap.size [0, 999, 500] (by decide) (by decide) _ (F1.out.1.alloc _) (heap_alloc_new _ _) (by omega)).mono ?_
  rintro e w2 ⟨y, rfl, hy, c2, g2⟩
  have F2 : Hid _ := And.intro c2 ((F1.out.2.alloc _).trans g2 (fun _ _ e => e))
  clear c2 g2
  go_wp2
  go_ret
  refine ⟨y, rfl, ?_, ?_, F2.out.1, F2.out.2⟩ <;> (simp at hy; omega)
end
section
open Go.RowKit

theorem put3 {W : World} {R : Nat} {a b c : Value} (o k v : Value) (hR : W.heap[R]? = some (.cells #[a, b, c] 54 (0, 0))) :
  (((W.setCell ⟨R, 0, none⟩ o).setCell ⟨R, 1, none⟩ k).setCell ⟨R, 2, none⟩ v).heap[R]? = some (.cells #[o, k, v] 54 (0, 0)) := by
 have h1 := heap_setCell_same W R 0 _ 54 o hR
 have h2 := heap_setCell_same _ R 1 _ 54 k h1
 have h3 := heap_setCell_same _ R 2 _ 54 v h2
 rw [h3]; rfl
theorem set3 {W : World} {R : Nat} {a b c : Value} (v : Value) (hR : W.heap[R]? = some (.cells #[a, b, c] 54 (0, 0))) : (W.setCell ⟨R, 2, none⟩ v).heap[R]? = some (.cells #[a, b, v] 54 (0, 0)) := by
 rw [heap_setCell_same W R 2 _ 54 v hR]; rfl
theorem set32 {W : World} {R : Nat} {a b c : Value} (v : Value) (hR : W.heap[R]? = some (.cells #[a, b, c] 54 (0, 0))) : (W.setCell ⟨R, 1, none⟩ v).heap[R]? = some (.cells #[a, v, c] 54 (0, 0)) := by
 rw [heap_setCell_same W R 1 _ 54 v hR]; rfl
theorem set31 {W : World} {R : Nat} {a b c : Value} (v : Value) (hR : W.heap[R]? = some (.cells #[a, b, c] 54 (0, 0))) : (W.setCell ⟨R, 0, none⟩ v).heap[R]? = some (.cells #[v, b, c] 54 (0, 0)) := by
 rw [heap_setCell_same W R 0 _ 54 v hR]; rfl
theorem at3 {W : World} {R : Nat} {a b c : Value} (hR : W.heap[R]? = some (.cells #[a, b, c] 54 (0, 0))) :
  (W.cell? ⟨R, 0, none⟩ = some a ∧ W.cell? ⟨R, 1, none⟩ = some b ∧ W.cell? ⟨R, 2, none⟩ = some c) ∧ (W.frozen? ⟨R, 0, none⟩ = false ∧ W.frozen? ⟨R, 1, none⟩ = false ∧ W.frozen? ⟨R, 2, none⟩ = false) :=
 ⟨⟨by rw [cell_of_cells hR]; rfl, by rw [cell_of_cells hR]; rfl, by rw [cell_of_cells hR]; rfl⟩, frozen_of_cells hR, frozen_of_cells hR, frozen_of_cells hR⟩

structure MsgEnd (w : World) (C R M : Nat) (o k v : Int) (W : World) : Prop where
 cur : Cur W C
 chg : Chg (fun g => g = C) w W
 hR : ∃ a b c, W.heap[R]? = some (.cells #[a, b, c] 54 (0, 0))
 hM : W.heap[M]? = some (.cells #[.int .i64 o, .int .i64 k, .int .i64 v] 54 (0, 0))
 rR : w.heap.size ≤ R
 rM : w.heap.size ≤ M
 ne : R ≠ M
 nC : C < w.heap.size

theorem MsgEnd.fin {w : World} {C R M : Nat} {o k v : Int} {W : World} (h : MsgEnd w C R M o k v W) :
  (Cur (((W.setCell ⟨R, 0, none⟩ (.int .i64 o)).setCell ⟨R, 1, none⟩ (.int .i64 k)).setCell ⟨R, 2, none⟩ (.int .i64 v)) C ∧
   Chg (fun g => g = C) w (((W.setCell ⟨R, 0, none⟩ (.int .i64 o)).setCell ⟨R, 1, none⟩ (.int .i64 k)).setCell ⟨R, 2, none⟩ (.int .i64 v))) ∧
  ((((W.setCell ⟨R, 0, none⟩ (.int .i64 o)).setCell ⟨R, 1, none⟩ (.int .i64 k)).setCell ⟨R, 2, none⟩ (.int .i64 v)).cell? ⟨R, 0, none⟩ = some (.int .i64 o) ∧
   (((W.setCell ⟨R, 0, none⟩ (.int .i64 o)).setCell ⟨R, 1, none⟩ (.int .i64 k)).setCell ⟨R, 2, none⟩ (.int .i64 v)).cell? ⟨R, 1, none⟩ = some (.int .i64 k) ∧
   (((W.setCell ⟨R, 0, none⟩ (.int .i64 o)).setCell ⟨R, 1, none⟩ (.int .i64 k)).setCell ⟨R, 2, none⟩ (.int .i64 v)).cell? ⟨R, 2, none⟩ = some (.int .i64 v)) := by
 obtain ⟨a, b, c, hR⟩ := h.hR
 have hp := put3 (.int .i64 o) (.int .i64 k) (.int .i64 v) hR
 have hcW : Chg (fun g => g = R) W (((W.setCell ⟨R, 0, none⟩ (.int .i64 o)).setCell ⟨R, 1, none⟩ (.int .i64 k)).setCell ⟨R, 2, none⟩ (.int .i64 v)) :=
  Chg.setAt (F := fun g => g = R) (Chg.setAt (F := fun g => g = R) (Chg.setAt (F := fun g => g = R) (Chg.refl _ _) _ _ rfl _) _ _ rfl _) _ _ rfl _
 refine ⟨⟨?_, ?_⟩, (at3 hp).1⟩
 ·exact h.cur.chg hcW (fun g e => by have := h.rR; have := h.nC; omega)
 ·exact (h.chg.trans hcW (fun g hg e => by have := h.rR; omega))

theorem l1DrawMsg_any (C : Nat) (w : World) (hc : Cur w C) :
  Calls Tryd.prog 51 #[.pointer (some ⟨C, 0, none⟩)] w fun e w' => ∃ o k v : Int, e = .returned (.agg #[.int .i64 o, .int .i64 k, .int .i64 v]) ∧ Cur w' C ∧ Chg (fun g => g = C) w w' := by
 have hCw := hc.lt
 have CU : Hid (Cur w C) := hc
 clear hc
 go_enter Tryd.func51, Tryd.ntmps51
 go_wp2_with fail
 have hs0 : (w.alloc (.cells #[.int .i64 0, .int .i64 0, .int .i64 0] 54)).heap.size = w.heap.size + 1 := by simp
 refine (l1PickInt_any C (w.heap.size + 1) [1, 1, 1, 2, 3, 3, 4] (by decide) (by decide) _ ((CU.out.alloc _).alloc _) (by rw [← hs0]; exact heap_alloc_new _ _) (by omega)).mono ?_
 rintro e w1 ⟨o, rfl, ho, c1, g1⟩
 have G1 : Chg (fun g => g = C) w w1 := (((Chg.refl _ _).alloc _).alloc _).trans g1 (fun _ _ e => e)
 have R1 : w1.heap[w.heap.size]? = some (.cells #[.int .i64 0, .int .i64 0, .int .i64 0] 54 (0, 0)) := by
  refine row_chg ?_ g1 (by omega)
  rw [Below.heap_alloc _ _ _ (by omega)]; exact heap_alloc_new _ _
 have F1 : Hid _ := And.intro c1 (And.intro G1 R1)
 clear c1 g1 G1 R1
 go_wp2_with fail
 refine (l1DrawKey_any C _ F1.out.1).mono ?_
 rintro e w2 ⟨k, rfl, hk0, hk9, c2, g2⟩
 have R2 := row_chg F1.out.2.2 g2 (by omega)
 have G2 := F1.out.2.1.trans g2 (fun _ _ e => e)
 have hsz : w.heap.size < w2.heap.size := (Array.getElem?_eq_some_iff.1 R2).1
 have F2 : Hid _ := And.intro c2 (And.intro G2 R2)
 clear c2 g2 G2 R2 F1
 have hcase : o = 1 ∨ o = 2 ∨ o = 3 ∨ o = 4 := by simp at ho; omega
 clear ho
 have E0 : Hid (MsgEnd w C w.heap.size w2.heap.size o k 0 (w2.alloc (.cells #[.int .i64 o, .int .i64 k, .int .i64 0] 54))) :=
  ⟨F2.out.1.alloc _, F2.out.2.1.alloc _, ⟨_, _, _, by rw [Below.heap_alloc _ _ _ hsz]; exact F2.out.2.2⟩, heap_alloc_new _ _, Nat.le_refl _, by omega, by omega, hCw⟩
 have body : ∀ (o' : Int), o' = o → (o' = 1 ∨ o' = 3) ∨ (o' = 2 ∨ o' = 4) := by intro o' h; omega
 rcases body o rfl with hcs | hcs
 ·have q : (o == 1) = true ∨ ((o == 1) = false ∧ (o == 3) = true) := by rcases hcs with rfl | rfl <;> simp
  have M1 := E0.out.hM
  obtain ⟨⟨m0, m1, m2⟩, n0, n1, n2⟩ := at3 M1
  clear body hcase hcs M1
  rcases q with q | ⟨q, q3⟩
  all_goals
   go_wp2_with fail
   refine (l1Below_any C 99 _ E0.out.cur (by decide)).mono ?_
   rintro e w3 ⟨y, rfl, hy0, hy1, _, c3, g3⟩
   have R3 := row_chg E0.out.hR.choose_spec.choose_spec.choose_spec g3 (by omega)
   have M3 := row_chg E0.out.hM g3 (by omega)
   have hsz3 : w2.heap.size < w3.heap.size := (Array.getElem?_eq_some_iff.1 M3).1
   have G3 := E0.out.chg.trans g3 (fun _ _ e => e)
   have F3 : Hid _ := And.intro c3 (And.intro G3 (And.intro R3 M3))
   clear c3 g3 G3 R3 M3
   go_wp2_with fail
   refine (l1PickInt_any C w3.heap.size [1, -2, 5, 700, 1000000000, -1000000000, y] (by simp) (by simp) _ (F3.out.1.alloc _) (heap_alloc_new _ _) (by omega)).mono ?_
   rintro e w4 ⟨vv, rfl, _, c4, g4⟩
   have R4 := row_chg (show (w3.alloc (.cells ([1, -2, 5, 700, 1000000000, -1000000000, y].map (Value.int .i64)).toArray 3)).heap[w.heap.size]? = _ by rw [Below.heap_alloc _ _ _ (by omega)]; exact F3.out.2.2.1) g4 (by omega)
   have M4 := row_chg (show (w3.alloc (.cells ([1, -2, 5, 700, 1000000000, -1000000000, y].map (Value.int .i64)).toArray 3)).heap[w2.heap.size]? = _ by rw [Below.heap_alloc _ _ _ (by omega)]; exact F3.out.2.2.2) g4 (by omega)
   have G4 := (F3.out.2.1.alloc (.cells ([1, -2, 5, 700, 1000000000, -1000000000, y].map (Value.int .i64)).toArray 3)).trans g4 (fun _ _ e => e)
   obtain ⟨⟨a0, a1, a2⟩, b0, b1, b2⟩ := at3 M4
   have M5 := set3 (.int .i64 vv) M4
   have cM : Chg (fun g => g = w2.heap.size) w4 (w4.setCell ⟨w2.heap.size, 2, none⟩ (.int .i64 vv)) := Chg.setAt (F := fun g => g = w2.heap.size) (Chg.refl _ _) _ _ rfl _
   have E5 : MsgEnd w C w.heap.size w2.heap.size o k vv (w4.setCell ⟨w2.heap.size, 2, none⟩ (.int .i64 vv)) :=
    ⟨c4.chg cM (fun g e => by omega), G4.trans cM (fun g hg e => by omega), ⟨_, _, _, row_chg R4 cM (by omega)⟩, M5, Nat.le_refl _, by omega, by omega, hCw⟩
   obtain ⟨⟨x0, x1, x2⟩, z0, z1, z2⟩ := at3 M5
   obtain ⟨⟨r0, r1, r2⟩, t0, t1, t2⟩ := at3 (row_chg R4 cM (by omega))
   have FIN : Hid _ := E5.fin
   clear R4 M4 G4 M5 cM E5 c4 g4
   go_wp2
   obtain ⟨⟨k1, k2⟩, q0, q1, q2⟩ := FIN.out
   exact bodyPost_ret (v := .agg #[.int .i64 o, .int .i64 k, .int .i64 vv]) (by simp [results, Tryd.results51, go_sem, q0, q1, q2]) rfl ⟨o, k, vv, rfl, k1, k2⟩
 ·have q1 : (o == 1) = false := by rcases hcs with rfl | rfl <;> simp
  have q3 : (o == 3) = false := by rcases hcs with rfl | rfl <;> simp
  have M1 := E0.out.hM
  obtain ⟨⟨m0, m1, m2⟩, n0, n1, n2⟩ := at3 M1
  obtain ⟨⟨r0, r1, r2⟩, t0, t1, t2⟩ := at3 F2.out.2.2
  have FIN0 := E0.out.fin
  rw [World.setCell_alloc_past _ _ _ _ hsz, World.setCell_alloc_past _ _ _ _ (by simpa using hsz), World.setCell_alloc_past _ _ _ _ (by simpa using hsz)] at FIN0
  have FIN : Hid _ := FIN0
  clear body hcase hcs M1 FIN0
  go_wp2
  obtain ⟨⟨k1, k2⟩, q0, q1, q2⟩ := FIN.out
  exact bodyPost_ret (v := .agg #[.int .i64 o, .int .i64 k, .int .i64 0]) (by simp [results, Tryd.results51, go_sem, q0, q1, q2]) rfl ⟨o, k, 0, rfl, k1, k2⟩
end
section
open Go.RowKit

structure Bel (w : World) where
 now : World
 bel : Below w.heap.size w now

theorem Bel.some (w : World) : Nonempty (Bel w) := ⟨⟨w, Below.refl _ _⟩⟩

theorem wp_region_bel {P : Program} {id : Nat} {Q : Exit → Act → World → Prop} {a : Act} {w w0 : World} {l : List Oper} (hm : P.follows .mixedOrders = true) (hB : Region.lexB .any l.toArray = true) (h0 : Below w0.heap.size w0 w)
  (h : wpQuiet P l.toArray (fun w' => ∃ u : Bel w0, w' = u.now) (fun a' => ∀ w', (∃ u : Bel w0, w' = u.now) → Q .normal a' w') l a) : (Code.region id l.toArray true).wp P Q a w :=
 wp_region_quiet (C := fun w' => ∃ u : Bel w0, w' = u.now) hm hB ⟨⟨w.drew, h0.drew⟩, rfl⟩ (by simpa using h)

theorem Calls.bel {P : Program} {f : FuncId} {args : Array Value} {w : World} {u : Bel w} {v : Value}
  (h : Calls P f args u.now fun e w' => e = .returned v ∧ Below u.now.heap.size u.now w') : Calls P f args u.now fun e w'' => e = .returned v ∧ ∃ u' : Bel w, w'' = u'.now :=
 h.mono fun _ w' ⟨he, hb⟩ => ⟨he, ⟨w', Below.and u.bel hb⟩, rfl⟩
end
section
open Go.RowKit

theorem l1First_any (v : Value) (A : ML) (x : Int) (w : World) (h : Row w v A.length (flatM A)) :
  Calls Tryd.prog 72 #[v, .int .i64 x] w fun e w' => e = .returned (.int .i64 (firstI A x)) ∧ w' = w := by
 obtain ⟨a, b, off, cap, rfl, hcap, hmax, ha, ho, hk, hv⟩ := h.msgs
 unfold maxLen at hmax
 go_enter Tryd.func72, Tryd.ntmps72
 go_wp2
 go_loop [5] (fun i => ∃ k : Nat, k ≤ A.length ∧ i = .int .i64 k ∧ Hid (∀ j, j < k → mK A j ≠ x)) (fun i => A.length - (intOf i).toNat)
 case atStart => exact ⟨0, Nat.zero_le _, rfl, fun j hj => absurd hj (Nat.not_lt_zero _)⟩
 case round =>
  obtain ⟨k, hkl, rfl, hall⟩ := hrel
  by_cases hlt : k < A.length
  ·have hal := ha (by omega)
   subst hal
   have d1 := hk k hlt
   by_cases he : mK A k = x
   ·have hb : (mK A k == x) = true := by rw [beq_iff_eq]; exact he
    have E : Hid (firstI A x = k) := firstI_at hlt he hall.out
    clear ho hk hv ha he
    go_wp2
    go_ret
    exact ⟨ret_int E.out.symm, rfl⟩
   ·have hb : (mK A k == x) = false := by rw [beq_eq_false_iff_ne]; exact he
    have E : Hid (mK A k ≠ x) := he
    clear ho hk hv ha he
    go_wp2
    go_round
    case rel => exact ⟨k + 1, by omega, by go_num, fun j hj => if h : j < k then hall.out j h else by rw [show j = k by omega]; exact E.out⟩
    case measure => simp [intOf]; omega
  ·have E : Hid (firstI A x = -1) := firstI_none (fun m hm => by
    obtain ⟨j, hj, rfl⟩ := List.getElem_of_mem hm
    rw [ml_at A j hj]
    exact hall.out j (by omega))
   clear ho hk hv ha
   go_wp2
   go_ret
   exact ⟨ret_int E.out.symm, rfl⟩

theorem specMsgOk_is {o k v : Int} {r : Bool} (q : msgOkB o k v = r) (w : World) :
  Calls Tryd.prog 54 #[.agg #[.int .i64 o, .int .i64 k, .int .i64 v]] w fun e w' => e = .returned (.bool r) ∧ Below w.heap.size w w' := q ▸ specMsgOk_any o k v w

theorem drop_consM (ms : ML) (k : Nat) (h : k < ms.length) : ms.drop k = (mO ms k, mK ms k, mV ms k) :: ms.drop (k + 1) := by
 rw [List.drop_eq_getElem_cons h, ml_at ms k h]
theorem over_step (ms : ML) (k : Nat) (h : k < ms.length) (x : Int) : overB (ms.drop k) x = ((msgOkB (mO ms k) (mK ms k) (mV ms k) && ((mK ms k == x) && ((mO ms k == 1) || (mO ms k == 2)))) || overB (ms.drop (k + 1)) x) := by
 rw [drop_consM ms k h, overB, List.any_cons]; rfl

theorem l1Over_any (v : Value) (ms : ML) (i : Nat) (hi : i < ms.length) (w : World) (h : Row w v ms.length (flatM ms)) :
  Calls Tryd.prog 71 #[v, .int .i64 i] w fun e w' => e = .returned (.bool (overB (ms.drop (i + 1)) (mK ms i))) ∧ Below w.heap.size w w' := by
 obtain ⟨a, b, off, cap, rfl, hcap, hmax, ha, ho, hk, hv⟩ := h.msgs
 unfold maxLen at hmax
 have hal := ha (by omega)
 subst hal
 clear ha h
 have c1 := hk i hi
 go_enter Tryd.func71, Tryd.ntmps71
 go_wp2
 go_loopw [5] (fun j wr => ∃ k : Nat, k ≤ ms.length ∧ j = .int .i64 k ∧ Hid (overB (ms.drop (i + 1)) (mK ms i) = overB (ms.drop k) (mK ms i)) ∧ Hid (Below w.heap.size w wr)) (fun j _ => ms.length - (intOf j).toNat)
 case atStart => exact ⟨i + 1, by omega, by go_num, rfl, Below.refl _ _⟩
 case round =>
  obtain ⟨k, hkl, rfl, hov, hb⟩ := hrel
  by_cases hlt : k < ms.length
  ·have STEP : Hid _ := over_step ms k hlt (mK ms i)
   have e0 : ∀ u : Bel w, u.now.cell? ⟨b, off + k * 3, none⟩ = some (.int .i64 (mO ms k)) := fun u => (u.bel.cell (by exact cell_lt (ho k hlt))).trans (ho k hlt)
   have e1 : ∀ u : Bel w, u.now.cell? ⟨b, off + k * 3 + 1, none⟩ = some (.int .i64 (mK ms k)) := fun u => (u.bel.cell (by exact cell_lt (hk k hlt))).trans (hk k hlt)
   have e2 : ∀ u : Bel w, u.now.cell? ⟨b, off + k * 3 + 2, none⟩ = some (.int .i64 (mV ms k)) := fun u => (u.bel.cell (by exact cell_lt (hv k hlt))).trans (hv k hlt)
   have e3 : ∀ u : Bel w, u.now.cell? ⟨b, off + i * 3 + 1, none⟩ = some (.int .i64 (mK ms i)) := fun u => (u.bel.cell (by exact cell_lt c1)).trans c1
   clear ho hk hv c1
   generalize mO ms k = x0 at *
   generalize mK ms k = x1 at *
   generalize mV ms k = x2 at *
   generalize hy1 : mK ms i = y1 at *
   have HY : Hid _ := hy1
   clear hy1
   have hki : (k : Int) < ms.length := by omega
   have hii : (i : Int) < ms.length := by omega
   rcases (show msgOkB x0 x1 x2 = false ∨ (msgOkB x0 x1 x2 = true ∧ (x1 == y1) = false) ∨ (msgOkB x0 x1 x2 = true ∧ (x1 == y1) = true ∧ (x0 == 1) = true) ∨ (msgOkB x0 x1 x2 = true ∧ (x1 == y1) = true ∧ (x0 == 1) = false ∧ (x0 == 2) = true) ∨ (msgOkB x0 x1 x2 = true ∧ (x1 == y1) = true ∧ (x0 == 1) = false ∧ (x0 == 2) = false) from by
    cases msgOkB x0 x1 x2 <;> cases (x1 == y1) <;> cases (x0 == 1) <;> cases (x0 == 2) <;> simp) with q | ⟨q, q1⟩ | ⟨q, q1, q2⟩ | ⟨q, q1, q2, q3⟩ | ⟨q, q1, q2, q3⟩
   ·have SP := STEP.out
    rw [q, Bool.false_and, Bool.false_or] at SP
    have NX : Hid _ := hov.out.trans SP
    clear SP
    go_wp2_with fail
    have _some := Bel.some w
    refine wp_region_bel (w0 := w) (by kernel_rfl) (by kernel_rfl) hb.out ?_
    repeat (go_big_quiet_step ((go_at_call 54; exact Calls.bel (specMsgOk_is q _))))
    refine wpQuiet_nil ?_
    rintro _ ⟨u, rfl⟩
    have FB : Hid (Below w.heap.size w u.now) := u.bel
    go_wp2
    go_roundw
    case rel => exact ⟨k + 1, by omega, by go_num, NX, FB⟩
    case measure => simp [intOf]; omega
   ·have SP := STEP.out
    rw [q, q1, Bool.true_and, Bool.false_and, Bool.false_or] at SP
    have NX : Hid _ := hov.out.trans SP
    clear SP
    go_wp2_with fail
    have _some := Bel.some w
    refine wp_region_bel (w0 := w) (by kernel_rfl) (by kernel_rfl) hb.out ?_
    repeat (go_big_quiet_step ((go_at_call 54; exact Calls.bel (specMsgOk_is q _))))
    refine wpQuiet_nil ?_
    rintro _ ⟨u, rfl⟩
    have FB : Hid (Below w.heap.size w u.now) := u.bel
    go_wp2
    go_roundw
    case rel => exact ⟨k + 1, by omega, by go_num, NX, FB⟩
    case measure => simp [intOf]; omega
   ·have SP := STEP.out
    rw [q, q1, q2, Bool.true_and, Bool.true_and, Bool.true_or, Bool.true_or] at SP
    have NX : Hid _ := hov.out.trans SP
    clear SP
    go_wp2_with fail
    have _some := Bel.some w
    refine wp_region_bel (w0 := w) (by kernel_rfl) (by kernel_rfl) hb.out ?_
    repeat (go_big_quiet_step ((go_at_call 54; exact Calls.bel (specMsgOk_is q _))))
    refine wpQuiet_nil ?_
    rintro _ ⟨u, rfl⟩
    have FB : Hid (Below w.heap.size w u.now) := u.bel
    go_wp2
    go_ret
    exact ⟨ret_bool (by rw [HY.out]; exact NX.out.symm), FB.out⟩
   ·have SP := STEP.out
    rw [q, q1, q2, q3, Bool.true_and, Bool.true_and, Bool.false_or, Bool.true_or] at SP
    have NX : Hid _ := hov.out.trans SP
    clear SP
    go_wp2_with fail
    have _some := Bel.some w
    refine wp_region_bel (w0 := w) (by kernel_rfl) (by kernel_rfl) hb.out ?_
    repeat (go_big_quiet_step ((go_at_call 54; exact Calls.bel (specMsgOk_is q _))))
    refine wpQuiet_nil ?_
    rintro _ ⟨u, rfl⟩
    have FB : Hid (Below w.heap.size w u.now) := u.bel
    go_wp2
    go_ret
    exact ⟨ret_bool (by rw [HY.out]; exact NX.out.symm), FB.out⟩
   ·have SP := STEP.out
    rw [q, q1, q2, q3, Bool.true_and, Bool.true_and, Bool.false_or, Bool.false_or] at SP
    have NX : Hid _ := hov.out.trans SP
    clear SP
    go_wp2_with fail
    have _some := Bel.some w
    refine wp_region_bel (w0 := w) (by kernel_rfl) (by kernel_rfl) hb.out ?_
    repeat (go_big_quiet_step ((go_at_call 54; exact Calls.bel (specMsgOk_is q _))))
    refine wpQuiet_nil ?_
    rintro _ ⟨u, rfl⟩
    have FB : Hid (Below w.heap.size w u.now) := u.bel
    go_wp2
    go_roundw
    case rel => exact ⟨k + 1, by omega, by go_num, NX, FB⟩
    case measure => simp [intOf]; omega
  ·have hkk : k = ms.length := by omega
   subst hkk
   have NX : Hid (overB (ms.drop (i + 1)) (mK ms i) = false) := by rw [hov.out, List.drop_length]; rfl
   clear ho hk hv c1
   go_wp2
   go_ret
   exact ⟨ret_bool NX.out.symm, hb.out⟩
end
end Go.Proofs.YtbmcojelgbkafaaDoor
