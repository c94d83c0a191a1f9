/-
  The model's drawing of messages.
  Regions that draw their order and whose callees make memory of their own but write into none that was there: one walk in the text's order, over the class of all later worlds.
  Contracts of the model's Shrink and of what it asks.
  The contract of the model's Shrink.
-/
import Derived.Test.YtekcnibohikmdaaOfWrites24
import Derived.Test.YtekcnibohikmdaaOfWrites1
import Derived.BigQuiet
import Derived.Test.YtekcnibohikmdaaOfWrites6
import Derived.Test.YtekcnibohikmdaaOfWrites2
import Derived.Deep.RegionWith
namespace Go.Proofs.Ytekcnibohikmdaa
set_option maxRecDepth 100000
set_option maxHeartbeats 8000000
section
open Go.RowKit

theorem put3 {W : World} {R : Nat} {a b c : Value} (o k v : Value) (hR : W.heap[R]? = some (.cells #[a, b, c] 73 (0, 0))) :
  (((W.setCell ⟨R, 0, none⟩ o).setCell ⟨R, 1, none⟩ k).setCell ⟨R, 2, none⟩ v).heap[R]? = some (.cells #[o, k, v] 73 (0, 0)) := by
 have h1 := heap_setCell_same W R 0 _ 73 o hR
 have h2 := heap_setCell_same _ R 1 _ 73 k h1
 have h3 := heap_setCell_same _ R 2 _ 73 v h2
 rw [h3]; rfl
theorem set3 {W : World} {R : Nat} {a b c : Value} (v : Value) (hR : W.heap[R]? = some (.cells #[a, b, c] 73 (0, 0))) : (W.setCell ⟨R, 2, none⟩ v).heap[R]? = some (.cells #[a, b, v] 73 (0, 0)) := by
 rw [heap_setCell_same W R 2 _ 73 v hR]; rfl
theorem set32 {W : World} {R : Nat} {a b c : Value} (v : Value) (hR : W.heap[R]? = some (.cells #[a, b, c] 73 (0, 0))) : (W.setCell ⟨R, 1, none⟩ v).heap[R]? = some (.cells #[a, v, c] 73 (0, 0)) := by
 rw [heap_setCell_same W R 1 _ 73 v hR]; rfl
theorem set31 {W : World} {R : Nat} {a b c : Value} (v : Value) (hR : W.heap[R]? = some (.cells #[a, b, c] 73 (0, 0))) : (W.setCell ⟨R, 0, none⟩ v).heap[R]? = some (.cells #[v, b, c] 73 (0, 0)) := by
 rw [heap_setCell_same W R 0 _ 73 v hR]; rfl
theorem at3 {W : World} {R : Nat} {a b c : Value} (hR : W.heap[R]? = some (.cells #[a, b, c] 73 (0, 0))) :
  (W.cell? ⟨R, 0, none⟩ = some a ∧ W.cell? ⟨R, 1, none⟩ = some b ∧ W.cell? ⟨R, 2, none⟩ = some c) ∧ (W.frozen? ⟨R, 0, none⟩ = false ∧ W.frozen? ⟨R, 1, none⟩ = false ∧ W.frozen? ⟨R, 2, none⟩ = false) :=
 ⟨⟨by rw [cell_of_cells hR]; rfl, by rw [cell_of_cells hR]; rfl, by rw [cell_of_cells hR]; rfl⟩, frozen_of_cells hR, frozen_of_cells hR, frozen_of_cells hR⟩

structure MsgEnd (w : World) (C R M : Nat) (o k v : Int) (W : World) : Prop where
 cur : Cur W C
 chg : Chg (fun g => g = C) w W
 hR : ∃ a b c, W.heap[R]? = some (.cells #[a, b, c] 73 (0, 0))
 hM : W.heap[M]? = some (.cells #[.int .i64 o, .int .i64 k, .int .i64 v] 73 (0, 0))
 rR : w.heap.size ≤ R
 rM : w.heap.size ≤ M
 ne : R ≠ M
 nC : C < w.heap.size

theorem MsgEnd.fin {w : World} {C R M : Nat} {o k v : Int} {W : World} (h : MsgEnd w C R M o k v W) :
  (Cur (((W.setCell ⟨R, 0, none⟩ (.int .i64 o)).setCell ⟨R, 1, none⟩ (.int .i64 k)).setCell ⟨R, 2, none⟩ (.int .i64 v)) C ∧
   Chg (fun g => g = C) w (((W.setCell ⟨R, 0, none⟩ (.int .i64 o)).setCell ⟨R, 1, none⟩ (.int .i64 k)).setCell ⟨R, 2, none⟩ (.int .i64 v))) ∧
  ((((W.setCell ⟨R, 0, none⟩ (.int .i64 o)).setCell ⟨R, 1, none⟩ (.int .i64 k)).setCell ⟨R, 2, none⟩ (.int .i64 v)).cell? ⟨R, 0, none⟩ = some (.int .i64 o) ∧
   (((W.setCell ⟨R, 0, none⟩ (.int .i64 o)).setCell ⟨R, 1, none⟩ (.int .i64 k)).setCell ⟨R, 2, none⟩ (.int .i64 v)).cell? ⟨R, 1, none⟩ = some (.int .i64 k) ∧
   (((W.setCell ⟨R, 0, none⟩ (.int .i64 o)).setCell ⟨R, 1, none⟩ (.int .i64 k)).setCell ⟨R, 2, none⟩ (.int .i64 v)).cell? ⟨R, 2, none⟩ = some (.int .i64 v)) := by
 obtain ⟨a, b, c, hR⟩ := h.hR
 have hp := put3 (.int .i64 o) (.int .i64 k) (.int .i64 v) hR
 have hcW : Chg (fun g => g = R) W (((W.setCell ⟨R, 0, none⟩ (.int .i64 o)).setCell ⟨R, 1, none⟩ (.int .i64 k)).setCell ⟨R, 2, none⟩ (.int .i64 v)) :=
  Chg.setAt (F := fun g => g = R) (Chg.setAt (F := fun g => g = R) (Chg.setAt (F := fun g => g = R) (Chg.refl _ _) _ _ rfl _) _ _ rfl _) _ _ rfl _
 refine ⟨⟨?_, ?_⟩, (at3 hp).1⟩
 ·exact h.cur.chg hcW (fun g e => by have := h.rR; have := h.nC; omega)
 ·exact (h.chg.trans hcW (fun g hg e => by have := h.rR; omega))

theorem l1DrawMsg_any (C : Nat) (w : World) (hc : Cur w C) :
  Calls Try.prog 41 #[.pointer (some ⟨C, 0, none⟩)] w fun e w' => ∃ o k v : Int, e = .returned (.agg #[.int .i64 o, .int .i64 k, .int .i64 v]) ∧ Cur w' C ∧ Chg (fun g => g = C) w w' := by
 have hCw := hc.lt
 have CU : Hid (Cur w C) := hc
 clear hc
 go_enter Try.func41, Try.ntmps41
 go_wp2_with fail
 have hs0 : (w.alloc (.cells #[.int .i64 0, .int .i64 0, .int .i64 0] 73)).heap.size = w.heap.size + 1 := by simp
 refine (l1PickInt_any C (w.heap.size + 1) [1, 1, 1, 2, 3, 3, 4] (by decide) (by decide) _ ((CU.out.alloc _).alloc _) (by rw [← hs0]; exact heap_alloc_new _ _) (by omega)).mono ?_
 rintro e w1 ⟨o, rfl, ho, c1, g1⟩
 have G1 : Chg (fun g => g = C) w w1 := (((Chg.refl _ _).alloc _).alloc _).trans g1 (fun _ _ e => e)
 have R1 : w1.heap[w.heap.size]? = some (.cells #[.int .i64 0, .int .i64 0, .int .i64 0] 73 (0, 0)) := by
  refine row_chg ?_ g1 (by omega)
  rw [Below.heap_alloc _ _ _ (by omega)]; exact heap_alloc_new _ _
 have F1 : Hid _ := And.intro c1 (And.intro G1 R1)
 clear c1 g1 G1 R1
 go_wp2_with fail
 refine (l1DrawKey_any C _ F1.out.1).mono ?_
 rintro e w2 ⟨k, rfl, hk0, hk9, c2, g2⟩
 have R2 := row_chg F1.out.2.2 g2 (by omega)
 have G2 := F1.out.2.1.trans g2 (fun _ _ e => e)
 have hsz : w.heap.size < w2.heap.size := (Array.getElem?_eq_some_iff.1 R2).1
 have F2 : Hid _ := And.intro c2 (And.intro G2 R2)
 clear c2 g2 G2 R2 F1
 have hcase : o = 1 ∨ o = 2 ∨ o = 3 ∨ o = 4 := by simp at ho; omega
 clear ho
 have E0 : Hid (MsgEnd w C w.heap.size w2.heap.size o k 0 (w2.alloc (.cells #[.int .i64 o, .int .i64 k, .int .i64 0] 73))) :=
  ⟨F2.out.1.alloc _, F2.out.2.1.alloc _, ⟨_, _, _, by rw [Below.heap_alloc _ _ _ hsz]; exact F2.out.2.2⟩, heap_alloc_new _ _, Nat.le_refl _, by omega, by omega, hCw⟩
 have body : ∀ (o' : Int), o' = o → (o' = 1 ∨ o' = 3) ∨ (o' = 2 ∨ o' = 4) := by intro o' h; omega
 rcases body o rfl with hcs | hcs
 ·have q : (o == 1) = true ∨ ((o == 1) = false ∧ (o == 3) = true) := by rcases hcs with rfl | rfl <;> simp
  have M1 := E0.out.hM
  obtain ⟨⟨m0, m1, m2⟩, n0, n1, n2⟩ := at3 M1
  clear body hcase hcs M1
  rcases q with q | ⟨q, q3⟩
  all_goals
   go_wp2_with fail
   refine (l1Below_any C 99 _ E0.out.cur (by decide)).mono ?_
   rintro e w3 ⟨y, rfl, hy0, hy1, _, c3, g3⟩
   have R3 := row_chg E0.out.hR.choose_spec.choose_spec.choose_spec g3 (by omega)
   have M3 := row_chg E0.out.hM g3 (by omega)
   have hsz3 : w2.heap.size < w3.heap.size := (Array.getElem?_eq_some_iff.1 M3).1
   have G3 := E0.out.chg.trans g3 (fun _ _ e => e)
   have F3 : Hid _ := And.intro c3 (And.intro G3 (And.intro R3 M3))
   clear c3 g3 G3 R3 M3
   go_wp2_with fail
   refine (l1PickInt_any C w3.heap.size [1, -2, 5, 700, 1000000000, -1000000000, y] (by simp) (by simp) _ (F3.out.1.alloc _) (heap_alloc_new _ _) (by omega)).mono ?_
   rintro e w4 ⟨vv, rfl, _, c4, g4⟩
   have R4 := row_chg (show (w3.alloc (.cells ([1, -2, 5, 700, 1000000000, -1000000000, y].map (Value.int .i64)).toArray 3)).heap[w.heap.size]? = _ by rw [Below.heap_alloc _ _ _ (by omega)]; exact F3.out.2.2.1) g4 (by omega)
   have M4 := row_chg (show (w3.alloc (.cells ([1, -2, 5, 700, 1000000000, -1000000000, y].map (Value.int .i64)).toArray 3)).heap[w2.heap.size]? = _ by rw [Below.heap_alloc _ _ _ (by omega)]; exact F3.out.2.2.2) g4 (by omega)
   have G4 := (F3.out.2.1.alloc (.cells ([1, -2, 5, 700, 1000000000, -1000000000, y].map (Value.int .i64)).toArray 3)).trans g4 (fun _ _ e => e)
   obtain ⟨⟨a0, a1, a2⟩, b0, b1, b2⟩ := at3 M4
   have M5 := set3 (.int .i64 vv) M4
   have cM : Chg (fun g => g = w2.heap.size) w4 (w4.setCell ⟨w2.heap.size, 2, none⟩ (.int .i64 vv)) := Chg.setAt (F := fun g => g = w2.heap.size) (Chg.refl _ _) _ _ rfl _
   have E5 : MsgEnd w C w.heap.size w2.heap.size o k vv (w4.setCell ⟨w2.heap.size, 2, none⟩ (.int .i64 vv)) :=
    ⟨c4.chg cM (fun g e => by omega), G4.trans cM (fun g hg e => by omega), ⟨_, _, _, row_chg R4 cM (by omega)⟩, M5, Nat.le_refl _, by omega, by omega, hCw⟩
   obtain ⟨⟨x0, x1, x2⟩, z0, z1, z2⟩ := at3 M5
   obtain ⟨⟨r0, r1, r2⟩, t0, t1, t2⟩ := at3 (row_chg R4 cM (by omega))
   have FIN : Hid _ := E5.fin
   clear R4 M4 G4 M5 cM E5 c4 g4
   go_wp2
   obtain ⟨⟨k1, k2⟩, q0, q1, q2⟩ := FIN.out
   exact bodyPost_ret (v := .agg #[.int .i64 o, .int .i64 k, .int .i64 vv]) (by simp [results, Try.results41, go_sem, q0, q1, q2]) rfl ⟨o, k, vv, rfl, k1, k2⟩
 ·have q1 : (o == 1) = false := by rcases hcs with rfl | rfl <;> simp
  have q3 : (o == 3) = false := by rcases hcs with rfl | rfl <;> simp
  have M1 := E0.out.hM
  obtain ⟨⟨m0, m1, m2⟩, n0, n1, n2⟩ := at3 M1
  obtain ⟨⟨r0, r1, r2⟩, t0, t1, t2⟩ := at3 F2.out.2.2
  have FIN0 := E0.out.fin
  rw [World.setCell_alloc_past _ _ _ _ hsz, World.setCell_alloc_past _ _ _ _ (by simpa using hsz), World.setCell_alloc_past _ _ _ _ (by simpa using hsz)] at FIN0
  have FIN : Hid _ := FIN0
  clear body hcase hcs M1 FIN0
  go_wp2
  obtain ⟨⟨k1, k2⟩, q0, q1, q2⟩ := FIN.out
  exact bodyPost_ret (v := .agg #[.int .i64 o, .int .i64 k, .int .i64 0]) (by simp [results, Try.results41, go_sem, q0, q1, q2]) rfl ⟨o, k, 0, rfl, k1, k2⟩
end
section
open Go.RowKit

structure Bel (w : World) where
 now : World
 bel : Below w.heap.size w now

theorem Bel.some (w : World) : Nonempty (Bel w) := ⟨⟨w, Below.refl _ _⟩⟩

theorem wp_region_bel {P : Program} {id : Nat} {Q : Exit → Act → World → Prop} {a : Act} {w w0 : World} {l : List Oper} (hm : P.follows .mixedOrders = true) (hB : Region.lexB .any l.toArray = true) (h0 : Below w0.heap.size w0 w)
  (h : wpQuiet P l.toArray (fun w' => ∃ u : Bel w0, w' = u.now) (fun a' => ∀ w', (∃ u : Bel w0, w' = u.now) → Q .normal a' w') l a) : (Code.region id l.toArray true).wp P Q a w :=
 wp_region_quiet (C := fun w' => ∃ u : Bel w0, w' = u.now) hm hB ⟨⟨w.drew, h0.drew⟩, rfl⟩ (by simpa using h)

theorem Calls.bel {P : Program} {f : FuncId} {args : Array Value} {w : World} {u : Bel w} {v : Value}
  (h : Calls P f args u.now fun e w' => e = .returned v ∧ Below u.now.heap.size u.now w') : Calls P f args u.now fun e w'' => e = .returned v ∧ ∃ u' : Bel w, w'' = u'.now :=
 h.mono fun _ w' ⟨he, hb⟩ => ⟨he, ⟨w', Below.and u.bel hb⟩, rfl⟩
end
section
open Go.RowKit

theorem l1First_any (v : Value) (A : ML) (x : Int) (w : World) (h : Row w v A.length (flatM A)) :
  Calls Try.prog 69 #[v, .int .i64 x] w fun e w' => e = .returned (.int .i64 (firstI A x)) ∧ w' = w := by
 obtain ⟨a, b, off, cap, rfl, hcap, hmax, ha, ho, hk, hv⟩ := h.msgs
 unfold maxLen at hmax
 go_enter Try.func69, Try.ntmps69
 go_wp2
 go_loop [5] (fun i => ∃ k : Nat, k ≤ A.length ∧ i = .int .i64 k ∧ Hid (∀ j, j < k → mK A j ≠ x)) (fun i => A.length - (intOf i).toNat)
 case atStart => exact ⟨0, Nat.zero_le _, rfl, fun j hj => absurd hj (Nat.not_lt_zero _)⟩
 case round =>
  obtain ⟨k, hkl, rfl, hall⟩ := hrel
  by_cases hlt : k < A.length
  ·have hal := ha (by omega)
   subst hal
   have d1 := hk k hlt
   by_cases he : mK A k = x
   ·have hb : (mK A k == x) = true := by rw [beq_iff_eq]; exact he
    have E : Hid (firstI A x = k) := firstI_at hlt he hall.out
    clear ho hk hv ha he
    go_wp2
    go_ret
    exact ⟨ret_int E.out.symm, rfl⟩
   ·have hb : (mK A k == x) = false := by rw [beq_eq_false_iff_ne]; exact he
    have E : Hid (mK A k ≠ x) := he
    clear ho hk hv ha he
    go_wp2
    go_round
    case rel => exact ⟨k + 1, by omega, by go_num, fun j hj => if h : j < k then hall.out j h else by rw [show j = k by omega]; exact E.out⟩
    case measure => simp [intOf]; omega
  ·have E : Hid (firstI A x = -1) := firstI_none (fun m hm => by
    obtain ⟨j, hj, rfl⟩ := List.getElem_of_mem hm
    rw [ml_at A j hj]
    exact hall.out j (by omega))
   clear ho hk hv ha
   go_wp2
   go_ret
   exact ⟨ret_int E.out.symm, rfl⟩

theorem specMsgOk_is {o k v : Int} {r : Bool} (q : msgOkB o k v = r) (w : World) :
  Calls Try.prog 48 #[.agg #[.int .i64 o, .int .i64 k, .int .i64 v]] w fun e w' => e = .returned (.bool r) ∧ Below w.heap.size w w' := q ▸ specMsgOk_any o k v w

theorem drop_consM (ms : ML) (k : Nat) (h : k < ms.length) : ms.drop k = (mO ms k, mK ms k, mV ms k) :: ms.drop (k + 1) := by
 rw [List.drop_eq_getElem_cons h, ml_at ms k h]
theorem over_step (ms : ML) (k : Nat) (h : k < ms.length) (x : Int) : overB (ms.drop k) x = ((msgOkB (mO ms k) (mK ms k) (mV ms k) && ((mK ms k == x) && ((mO ms k == 1) || (mO ms k == 2)))) || overB (ms.drop (k + 1)) x) := by
 rw [drop_consM ms k h, overB, List.any_cons]; rfl

theorem l1Over_any (v : Value) (ms : ML) (i : Nat) (hi : i < ms.length) (w : World) (h : Row w v ms.length (flatM ms)) :
  Calls Try.prog 68 #[v, .int .i64 i] w fun e w' => e = .returned (.bool (overB (ms.drop (i + 1)) (mK ms i))) ∧ Below w.heap.size w w' := by
 obtain ⟨a, b, off, cap, rfl, hcap, hmax, ha, ho, hk, hv⟩ := h.msgs
 unfold maxLen at hmax
 have hal := ha (by omega)
 subst hal
 clear ha h
 have c1 := hk i hi
 go_enter Try.func68, Try.ntmps68
 go_wp2
 go_loopw [5] (fun j wr => ∃ k : Nat, k ≤ ms.length ∧ j = .int .i64 k ∧ Hid (overB (ms.drop (i + 1)) (mK ms i) = overB (ms.drop k) (mK ms i)) ∧ Hid (Below w.heap.size w wr)) (fun j _ => ms.length - (intOf j).toNat)
 case atStart => exact ⟨i + 1, by omega, by go_num, rfl, Below.refl _ _⟩
 case round =>
  obtain ⟨k, hkl, rfl, hov, hb⟩ := hrel
  by_cases hlt : k < ms.length
  ·have STEP : Hid _ := over_step ms k hlt (mK ms i)
   have e0 : ∀ u : Bel w, u.now.cell? ⟨b, off + k * 3, none⟩ = some (.int .i64 (mO ms k)) := fun u => (u.bel.cell (by exact cell_lt (ho k hlt))).trans (ho k hlt)
   have e1 : ∀ u : Bel w, u.now.cell? ⟨b, off + k * 3 + 1, none⟩ = some (.int .i64 (mK ms k)) := fun u => (u.bel.cell (by exact cell_lt (hk k hlt))).trans (hk k hlt)
   have e2 : ∀ u : Bel w, u.now.cell? ⟨b, off + k * 3 + 2, none⟩ = some (.int .i64 (mV ms k)) := fun u => (u.bel.cell (by exact cell_lt (hv k hlt))).trans (hv k hlt)
   have e3 : ∀ u : Bel w, u.now.cell? ⟨b, off + i * 3 + 1, none⟩ = some (.int .i64 (mK ms i)) := fun u => (u.bel.cell (by exact cell_lt c1)).trans c1
   clear ho hk hv c1
   generalize mO ms k = x0 at *
   generalize mK ms k = x1 at *
   generalize mV ms k = x2 at *
   generalize hy1 : mK ms i = y1 at *
   have HY : Hid _ := hy1
   clear hy1
   have hki : (k : Int) < ms.length := by omega
   have hii : (i : Int) < ms.length := by omega
   rcases (show msgOkB x0 x1 x2 = false ∨ (msgOkB x0 x1 x2 = true ∧ (x1 == y1) = false) ∨ (msgOkB x0 x1 x2 = true ∧ (x1 == y1) = true ∧ (x0 == 1) = true) ∨ (msgOkB x0 x1 x2 = true ∧ (x1 == y1) = true ∧ (x0 == 1) = false ∧ (x0 == 2) = true) ∨ (msgOkB x0 x1 x2 = true ∧ (x1 == y1) = true ∧ (x0 == 1) = false ∧ (x0 == 2) = false) from by
    cases msgOkB x0 x1 x2 <;> cases (x1 == y1) <;> cases (x0 == 1) <;> cases (x0 == 2) <;> simp) with q | ⟨q, q1⟩ | ⟨q, q1, q2⟩ | ⟨q, q1, q2, q3⟩ | ⟨q, q1, q2, q3⟩
   ·have SP := STEP.out
    rw [q, Bool.false_and, Bool.false_or] at SP
    have NX : Hid _ := hov.out.trans SP
    clear SP
    go_wp2_with fail
    have _some := Bel.some w
    refine wp_region_bel (w0 := w) (by kernel_rfl) (by kernel_rfl) hb.out ?_
    repeat (go_big_quiet_step ((go_at_call 48; exact Calls.bel (specMsgOk_is q _))))
    refine wpQuiet_nil ?_
    rintro _ ⟨u, rfl⟩
    have FB : Hid (Below w.heap.size w u.now) := u.bel
    go_wp2
    go_roundw
    case rel => exact ⟨k + 1, by omega, by go_num, NX, FB⟩
    case measure => simp [intOf]; omega
   ·have SP := STEP.out
    rw [q, q1, Bool.true_and, Bool.false_and, Bool.false_or] at SP
    have NX : Hid _ := hov.out.trans SP
    clear SP
    go_wp2_with fail
    have _some := Bel.some w
    refine wp_region_bel (w0 := w) (by kernel_rfl) (by kernel_rfl) hb.out ?_
    repeat (go_big_quiet_step ((go_at_call 48; exact Calls.bel (specMsgOk_is q _))))
    refine wpQuiet_nil ?_
    rintro _ ⟨u, rfl⟩
    have FB : Hid (Below w.heap.size w u.now) := u.bel
    go_wp2
    go_roundw
    case rel => exact ⟨k + 1, by omega, by go_num, NX, FB⟩
    case measure => simp [intOf]; omega
   ·have SP := STEP.out
    rw [q, q1, q2, Bool.true_and, Bool.true_and, Bool.true_or, Bool.true_or] at SP
    have NX : Hid _ := hov.out.trans SP
    clear SP
    go_wp2_with fail
    have _some := Bel.some w
    refine wp_region_bel (w0 := w) (by kernel_rfl) (by kernel_rfl) hb.out ?_
    repeat (go_big_quiet_step ((go_at_call 48; exact Calls.bel (specMsgOk_is q _))))
    refine wpQuiet_nil ?_
    rintro _ ⟨u, rfl⟩
    have FB : Hid (Below w.heap.size w u.now) := u.bel
    go_wp2
    go_ret
    exact ⟨ret_bool (by rw [HY.out]; exact NX.out.symm), FB.out⟩
   ·have SP := STEP.out
    rw [q, q1, q2, q3, Bool.true_and, Bool.true_and, Bool.false_or, Bool.true_or] at SP
    have NX : Hid _ := hov.out.trans SP
    clear SP
    go_wp2_with fail
    have _some := Bel.some w
    refine wp_region_bel (w0 := w) (by kernel_rfl) (by kernel_rfl) hb.out ?_
    repeat (go_big_quiet_step ((go_at_call 48; exact Calls.bel (specMsgOk_is q _))))
    refine wpQuiet_nil ?_
    rintro _ ⟨u, rfl⟩
    have FB : Hid (Below w.heap.size w u.now) := u.bel
    go_wp2
    go_ret
    exact ⟨ret_bool (by rw [HY.out]; exact NX.out.symm), FB.out⟩
   ·have SP := STEP.out
    rw [q, q1, q2, q3, Bool.true_and, Bool.true_and, Bool.false_or, Bool.false_or] at SP
    have NX : Hid _ := hov.out.trans SP
    clear SP
    go_wp2_with fail
    have _some := Bel.some w
    refine wp_region_bel (w0 := w) (by kernel_rfl) (by kernel_rfl) hb.out ?_
    repeat (go_big_quiet_step ((go_at_call 48; exact Calls.bel (specMsgOk_is q _))))
    refine wpQuiet_nil ?_
    rintro _ ⟨u, rfl⟩
    have FB : Hid (Below w.heap.size w u.now) := u.bel
    go_wp2
    go_roundw
    case rel => exact ⟨k + 1, by omega, by go_num, NX, FB⟩
    case measure => simp [intOf]; omega
  ·have hkk : k = ms.length := by omega
   subst hkk
   have NX : Hid (overB (ms.drop (i + 1)) (mK ms i) = false) := by rw [hov.out, List.drop_length]; rfl
   clear ho hk hv c1
   go_wp2
   go_ret
   exact ⟨ret_bool NX.out.symm, hb.out⟩
end
section
open Go.RowKit

theorem flatM_set2 (l : ML) (c : Int) : ∀ i, i < l.length → (flatM l).set (i * 3 + 2) (.int .i64 c) = flatM (l.set i (mO l i, mK l i, c)) := by
 intro i hi
 rw [← flatM_set l (mO l i) (mK l i) c i hi]
 have h := flatM_at l i hi
 have e0 : (flatM l).set (i * 3) (.int .i64 (mO l i)) = flatM l := by
  apply List.ext_getElem?
  intro j
  by_cases hj : j = i * 3
  ·subst hj; rw [List.getElem?_set_self (List.getElem?_eq_some_iff.1 h.1).1, h.1]
  ·rw [List.getElem?_set_ne (fun e => hj e.symm)]
 have e1 : (flatM l).set (i * 3 + 1) (.int .i64 (mK l i)) = flatM l := by
  apply List.ext_getElem?
  intro j
  by_cases hj : j = i * 3 + 1
  ·subst hj; rw [List.getElem?_set_self (List.getElem?_eq_some_iff.1 h.2.1).1, h.2.1]
  ·rw [List.getElem?_set_ne (fun e => hj e.symm)]
 rw [e0, e1]

theorem kept_step (ms : ML) (k : Nat) (h : k < ms.length) : keptF (ms.drop k) = if msgOkB (mO ms k) (mK ms k) (mV ms k) = true ∧ mO ms k ≠ 4 ∧ overB (ms.drop (k + 1)) (mK ms k) = false then (mO ms k, mK ms k, mV ms k) :: keptF (ms.drop (k + 1)) else keptF (ms.drop (k + 1)) := by
 rw [drop_consM ms k h, keptF]; rfl

theorem specShrink_any (vm : Value) (ms : ML) (w : World) (hm : Row w vm ms.length (flatM ms)) (hn : ms.length ≤ 2097152) :
  Calls Try.prog 60 #[vm] w fun e w' => ∃ v', e = .returned v' ∧ w'.ownsRow w.heap.size 73 3 v' (shrinkF ms).length (flatM (shrinkF ms)) ∧ Below w.heap.size w w' := by
 obtain ⟨i0, hi, hz0, hz1, hz2⟩ := info_parts Try.info73
 have RM : Hid (Row w vm ms.length (flatM ms)) := hm
 obtain ⟨a, b, off, cap, rfl, hcap, hmax, ha, ho, hk, hv⟩ := hm.msgs
 unfold maxLen at hmax
 have START : Hid ((w.alloc (.cells #[] 73)).ownsRow w.heap.size 73 3 (.slice (some ⟨w.heap.size, 0, none⟩) 0 0) 0 []) := empty_own w w.heap.size 73 3 (Nat.le_refl _)
 clear hm
 go_enter Try.func60, Try.ntmps60
 go_wp2
 go_loopw [3, 4] (fun out i wr => ∃ (k : Nat) (A : ML), k ≤ ms.length ∧ i = .int .i64 k ∧ A.length ≤ k ∧ Hid ((keptF (ms.drop k)).foldl stepS A = shrinkF ms) ∧ Hid (∀ m ∈ A, okN m) ∧ Hid (wr.ownsRow w.heap.size 73 3 out A.length (flatM A)) ∧ Hid (Below w.heap.size w wr))
  (fun _ i _ => ms.length - (intOf i).toNat)
 case atStart => exact ⟨0, [], Nat.zero_le _, rfl, Nat.le_refl _, rfl, fun m hm => by simp at hm, START, (Below.refl _ _).alloc (Nat.le_refl _) _⟩
 case round =>
  obtain ⟨k, A, hkl, rfl, hAl, hfold, hok, hown, hb⟩ := hrel
  clear START
  by_cases hlt : k < ms.length
  ·have hal := ha (by omega)
   subst hal
   have d0 := (hb.out.cell (by exact cell_lt (ho k hlt))).trans (ho k hlt)
   have d1 := (hb.out.cell (by exact cell_lt (hk k hlt))).trans (hk k hlt)
   have d2 := (hb.out.cell (by exact cell_lt (hv k hlt))).trans (hv k hlt)
   have KS : Hid _ := kept_step ms k hlt
   have hov := l1Over_any (.slice (some ⟨b, off, none⟩) ms.length cap) ms k hlt
   have OV : Hid _ := hov
   clear hov ho hk hv
   have MAL : Hid _ := heap_alloc_new wr (.cells #[.int .i64 (mO ms k), .int .i64 (mK ms k), .int .i64 (mV ms k)] 73)
   have BAL : Hid (Below w.heap.size w (wr.alloc (.cells #[.int .i64 (mO ms k), .int .i64 (mK ms k), .int .i64 (mV ms k)] 73))) := hb.out.alloc hb.out.size _
   have OAL : Hid _ := hown.out.alloc (.cells #[.int .i64 (mO ms k), .int .i64 (mK ms k), .int .i64 (mV ms k)] 73)
   have NGE : Hid (∀ g, u3.ownBlock = some g → g < wr.heap.size) := fun g hg => (hown.out.lt g hg).2
   generalize mO ms k = x0 at *
   generalize mK ms k = x1 at *
   generalize mV ms k = x2 at *
   clear hown hb
   go_wp2_with fail
   refine (specMsgOk_any x0 x1 x2 _).mono ?_
   rintro e w1 ⟨rfl, b1⟩
   have B1 : Hid (Below w.heap.size w w1) := Below.and BAL.out b1
   have O1 : Hid (w1.ownsRow w.heap.size 73 3 u3 A.length (flatM A)) := owns_below OAL.out b1
   have M1 : Hid (w1.heap[wr.heap.size]? = some (.cells #[.int .i64 x0, .int .i64 x1, .int .i64 x2] 73 (0, 0))) := by
    show _ = _
    rw [b1.block _ (by simp)]; exact MAL.out
   obtain ⟨⟨m0, m1, m2⟩, _⟩ := at3 M1.out
   clear d0 d1 d2 b1 BAL OAL MAL
   cases hq : msgOkB x0 x1 x2
   ·have NX : Hid _ := KS.out.trans (if_neg (by rw [hq]; simp))
    go_wp2
    go_roundw
    case rel => exact ⟨k + 1, A, by omega, by go_num, by omega, by rw [NX.out] at hfold; exact hfold, hok, O1, B1⟩
    case measure => simp [intOf]; omega
   ·by_cases h4 : x0 = 4
    ·have NX : Hid _ := KS.out.trans (if_neg (by simp [h4]))
     have e4 : (x0 == 4) = true := by simp [h4]
     clear h4
     go_wp2
     go_roundw
     case rel => exact ⟨k + 1, A, by omega, by go_num, by omega, by rw [NX.out] at hfold; exact hfold, hok, O1, B1⟩
     case measure => simp [intOf]; omega
    ·have e4 : (x0 == 4) = false := by rw [beq_eq_false_iff_ne]; exact h4
     go_wp2_with fail
     refine (OV.out _ (RM.out.below B1.out)).mono ?_
     rintro e w2 ⟨rfl, b2⟩
     have B2 : Hid (Below w.heap.size w w2) := Below.and B1.out b2
     have O2 : Hid (w2.ownsRow w.heap.size 73 3 u3 A.length (flatM A)) := owns_below O1.out b2
     have M2 : Hid (w2.heap[wr.heap.size]? = some (.cells #[.int .i64 x0, .int .i64 x1, .int .i64 x2] 73 (0, 0))) := by
      show _ = _
      rw [b2.block _ (Array.getElem?_eq_some_iff.1 M1.out).1]; exact M1.out
     obtain ⟨⟨p0, p1, p2⟩, _⟩ := at3 M2.out
     clear b2 m0 m1 m2 M1 O1 B1
     cases hov : overB (ms.drop (k + 1)) x1
     ·have NX : Hid _ := KS.out.trans (if_pos ⟨hq, h4, hov⟩)
      go_wp2_with fail
      refine (l1First_any u3 A x1 _ (Row.of_owns O2.out)).mono ?_
      rintro e w3 ⟨rfl, hw3⟩
      subst hw3
      have OKN : Hid (okN (x0, x1, x2)) := ⟨hq, h4⟩
      rcases firstI_spec A x1 with ⟨hf, _⟩ | ⟨n, hf, hnl, hkn, _⟩
      ·have hj : joinsB A (x0, x1, x2) = false := by simp [joinsB, hf]
       rw [hf]
       have NJ : Hid (stepS A (x0, x1, x2) = A ++ [(x0, x1, x2)]) := by show stepS _ _ = _; rw [stepS, hj]; rfl
       have H1 : Hid (∀ u ∈ [Value.int .i64 x0, .int .i64 x1, .int .i64 x2], u.oneCell' = true) := fun u hu => by simp at hu; rcases hu with rfl | rfl | rfl <;> rfl
       have HR : Hid _ := room_of (n := A.length) (bytes := 24) (by omega) (by decide)
       have hbs : w.heap.size ≤ w3.heap.size := B2.out.size
       have OW := O2.out
       clear hj
       go_wp2_with (at_builtin; refine app_one w3 rfl _ _ 52 rfl w.heap.size 73 i0 _ 3 24 Try.underlying52 hi hz0 hz1 hz2 rfl (by decide) (u3) _ _ rfl OW [.int .i64 x0, .int .i64 x1, .int .i64 x2] rfl rfl H1.out HR.out.1 HR.out.2 hbs ?_)
       intro v4 w4 ho4 _ hb4
       have FIN : Hid _ := And.intro ho4 (B2.out.trans hb4)
       clear ho4 hb4 OW
       go_wp2
       go_roundw
       case rel => exact ⟨k + 1, A ++ [(x0, x1, x2)], by omega, by go_num, by simp; omega, by rw [NX.out, List.foldl_cons, NJ.out] at hfold; exact hfold, fun m hm => by rcases List.mem_append.1 hm with h | h; exact hok.out m h; simp at h; subst h; exact OKN.out, by rw [flatM_append, List.length_append]; exact FIN.out.1, FIN.out.2⟩
       case measure => simp [intOf]; omega
      ·have hex : ∃ g cap', u3 = .slice (some ⟨g, 0, none⟩) A.length cap' ∧ cap' ≤ maxLen ∧ A.length ≤ cap' := by
        obtain ⟨_, ⟨_, e⟩ | ⟨g, cap', cur, e, _, _, h1, h2, _⟩⟩ := O2.out
        ·omega
        ·exact ⟨g, cap', e, h2, h1⟩
       obtain ⟨g, cap', rfl, hcap', hcap2⟩ := hex
       unfold maxLen at hcap'
       have c0 := (O2.out.cellAt (n * 3) (by omega)).trans (flatM_at A n hnl).1
       have c1 := (O2.out.cellAt (n * 3 + 1) (by omega)).trans (flatM_at A n hnl).2.1
       have c2 := (O2.out.cellAt (n * 3 + 2) (by omega)).trans (flatM_at A n hnl).2.2
       have hnl2 : (n : Int) < A.length := by omega
       rw [hf]
       rcases (show (mO A n == 1) = false ∨ ((mO A n == 1) = true ∧ (x0 == 3) = false) ∨ ((mO A n == 1) = true ∧ (x0 == 3) = true) from by cases (mO A n == 1) <;> cases (x0 == 3) <;> simp) with q1 | ⟨q1, q2⟩ | ⟨q1, q2⟩
       ·have hj : joinsB A (x0, x1, x2) = false := by simp [joinsB, hf, q1]
        have NJ : Hid (stepS A (x0, x1, x2) = A ++ [(x0, x1, x2)]) := by show stepS _ _ = _; rw [stepS, hj]; rfl
        have H1 : Hid (∀ u ∈ [Value.int .i64 x0, .int .i64 x1, .int .i64 x2], u.oneCell' = true) := fun u hu => by simp at hu; rcases hu with rfl | rfl | rfl <;> rfl
        have HR : Hid _ := room_of (n := A.length) (bytes := 24) (by omega) (by decide)
        have hbs : w.heap.size ≤ w3.heap.size := B2.out.size
        have OW := O2.out
        clear hj
        go_wp2_with (at_builtin; refine app_one w3 rfl _ _ 52 rfl w.heap.size 73 i0 _ 3 24 Try.underlying52 hi hz0 hz1 hz2 rfl (by decide) (.slice (some ⟨g, 0, none⟩) A.length cap') _ _ rfl OW [.int .i64 x0, .int .i64 x1, .int .i64 x2] rfl rfl H1.out HR.out.1 HR.out.2 hbs ?_)
        intro v4 w4 ho4 _ hb4
        have FIN : Hid _ := And.intro ho4 (B2.out.trans hb4)
        clear ho4 hb4 OW
        go_wp2
        go_roundw
        case rel => exact ⟨k + 1, A ++ [(x0, x1, x2)], by omega, by go_num, by simp; omega, by rw [NX.out, List.foldl_cons, NJ.out] at hfold; exact hfold, fun m hm => by rcases List.mem_append.1 hm with h | h; exact hok.out m h; simp at h; subst h; exact OKN.out, by rw [flatM_append, List.length_append]; exact FIN.out.1, FIN.out.2⟩
        case measure => simp [intOf]; omega
       ·have hj : joinsB A (x0, x1, x2) = false := by simp [joinsB, hf, q2]
        have NJ : Hid (stepS A (x0, x1, x2) = A ++ [(x0, x1, x2)]) := by show stepS _ _ = _; rw [stepS, hj]; rfl
        have H1 : Hid (∀ u ∈ [Value.int .i64 x0, .int .i64 x1, .int .i64 x2], u.oneCell' = true) := fun u hu => by simp at hu; rcases hu with rfl | rfl | rfl <;> rfl
        have HR : Hid _ := room_of (n := A.length) (bytes := 24) (by omega) (by decide)
        have hbs : w.heap.size ≤ w3.heap.size := B2.out.size
        have OW := O2.out
        clear hj
        go_wp2_with (at_builtin; refine app_one w3 rfl _ _ 52 rfl w.heap.size 73 i0 _ 3 24 Try.underlying52 hi hz0 hz1 hz2 rfl (by decide) (.slice (some ⟨g, 0, none⟩) A.length cap') _ _ rfl OW [.int .i64 x0, .int .i64 x1, .int .i64 x2] rfl rfl H1.out HR.out.1 HR.out.2 hbs ?_)
        intro v4 w4 ho4 _ hb4
        have FIN : Hid _ := And.intro ho4 (B2.out.trans hb4)
        clear ho4 hb4 OW
        go_wp2
        go_roundw
        case rel => exact ⟨k + 1, A ++ [(x0, x1, x2)], by omega, by go_num, by simp; omega, by rw [NX.out, List.foldl_cons, NJ.out] at hfold; exact hfold, fun m hm => by rcases List.mem_append.1 hm with h | h; exact hok.out m h; simp at h; subst h; exact OKN.out, by rw [flatM_append, List.length_append]; exact FIN.out.1, FIN.out.2⟩
        case measure => simp [intOf]; omega
       ·have hj : joinsB A (x0, x1, x2) = true := by simp [joinsB, hf, q1, q2]
        have YJ : Hid (stepS A (x0, x1, x2) = A.set n (mO A n, mK A n, clampI (mV A n + x2))) := by show stepS _ _ = _; rw [stepS, hj, if_pos rfl, hf]; rfl
        have OKS : Hid (∀ m ∈ A.set n (mO A n, mK A n, clampI (mV A n + x2)), okN m) := by
         rw [← YJ.out]; exact stepS_ok hok.out OKN.out
        have hAn : -1000000000 ≤ mV A n ∧ mV A n ≤ 1000000000 := (msgOkB_in (hok.out _ (mem_mO hnl)).1).2.2
        have hxn := (msgOkB_in hq).2.2
        have hw : IntKind.i64.wrap (mV A n + x2) = mV A n + x2 := wrap_small _ (by omega) (by omega)
        have f2 := O2.out.frozenAt (n * 3 + 2)
        have st := (O2.out.stored (n * 3 + 2) (.int .i64 (clampI (mV A n + x2)))).1
        rw [flatM_set2 A _ n hnl] at st
        have FIN : Hid _ := And.intro st (B2.out.setCell (p := ⟨g, n * 3 + 2, none⟩) ((O2.out.lt g rfl).1) (.int .i64 (clampI (mV A n + x2))))
        clear st hj hAn hxn
        go_wp2_with fail
        go_region_with (first | (go_at_call 70; refine (l1Clamp_any _ _).mono ?_; rintro e w' ⟨rfl, rfl⟩))
        all_goals
         go_wp2
         go_roundw
         case rel => exact ⟨k + 1, A.set n (mO A n, mK A n, clampI (mV A n + x2)), by omega, by go_num, by simp; omega, by rw [NX.out, List.foldl_cons, YJ.out] at hfold; exact hfold, OKS, by rw [List.length_set]; exact owns_below FIN.out.1 (Below.refl _ _).drew, FIN.out.2.drew⟩
         case measure => simp [intOf]; omega
     ·have NX : Hid _ := KS.out.trans (if_neg (by rw [hov]; simp))
      go_wp2
      go_roundw
      case rel => exact ⟨k + 1, A, by omega, by go_num, by omega, by rw [NX.out] at hfold; exact hfold, hok, O2, B2⟩
      case measure => simp [intOf]; omega
  ·have hkk : k = ms.length := by omega
   subst hkk
   have E : A = shrinkF ms := by have := hfold.out; rw [List.drop_length] at this; exact this
   subst E
   go_wp2
   go_ret
   exact ⟨_, rfl, hown.out, hb.out⟩
end
end Go.Proofs.Ytekcnibohikmdaa
