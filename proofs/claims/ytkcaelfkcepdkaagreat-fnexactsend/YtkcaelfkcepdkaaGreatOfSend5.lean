/-
  toEntry, toEntryS: entries copied out of the law's own kind.
  Logs in memory: the laws' own functions on them (szLog, toLog, eqLog).
  Lists of truths: the laws' functions on them.
-/
import Derived.Test.YtkcaelfkcepdkaaGreatOfSend4
import Derived.Test.YtkcaelfkcepdkaaGreatOfSend3
import Derived.Test.YtkcaelfkcepdkaaGreatOfSend1
import Derived.Deep.QuietTactic
import Derived.BigQuiet
namespace Go.Proofs.YtkcaelfkcepdkaaGreat
set_option maxRecDepth 100000
set_option maxHeartbeats 8000000
section
open Go.RowKit

theorem en_six {W : World} {R : Nat} {t : TypeId} {x0 x1 x2 x3 x4 x5 : Value} (a b c d e f : Value) (h : W.heap[R]? = some (.cells #[x0, x1, x2, x3, x4, x5] t (0, 0))) : ((((((W.setCell ⟨R, 0, none⟩ a).setCell ⟨R, 1, none⟩ b).setCell ⟨R, 2, none⟩ c).setCell ⟨R, 3, none⟩ d).setCell ⟨R, 4, none⟩ e).setCell ⟨R, 5, none⟩ f).heap[R]? = some (.cells #[a, b, c, d, e, f] t (0, 0)) := by
 have h0 := heap_setCell_same W R 0 _ _ a h
 have h1 := heap_setCell_same _ R 1 _ _ b h0
 have h2 := heap_setCell_same _ R 2 _ _ c h1
 have h3 := heap_setCell_same _ R 3 _ _ d h2
 have h4 := heap_setCell_same _ R 4 _ _ e h3
 have h5 := heap_setCell_same _ R 5 _ _ f h4
 simpa using h5
theorem en_late {W : World} {R : Nat} {t : TypeId} {x0 x1 x2 x3 x4 x5 : Value} (b c d e f : Value) (h : W.heap[R]? = some (.cells #[x0, x1, x2, x3, x4, x5] t (0, 0))) : (((((W.setCell ⟨R, 1, none⟩ b).setCell ⟨R, 2, none⟩ c).setCell ⟨R, 3, none⟩ d).setCell ⟨R, 4, none⟩ e).setCell ⟨R, 5, none⟩ f).heap[R]? = some (.cells #[x0, b, c, d, e, f] t (0, 0)) := by
 have h1 := heap_setCell_same _ R 1 _ _ b h
 have h2 := heap_setCell_same _ R 2 _ _ c h1
 have h3 := heap_setCell_same _ R 3 _ _ d h2
 have h4 := heap_setCell_same _ R 4 _ _ e h3
 have h5 := heap_setCell_same _ R 5 _ _ f h4
 simpa using h5
theorem en_six_chg (W : World) (R : Nat) (a b c d e f : Value) : Chg (fun g => g = R) W ((((((W.setCell ⟨R, 0, none⟩ a).setCell ⟨R, 1, none⟩ b).setCell ⟨R, 2, none⟩ c).setCell ⟨R, 3, none⟩ d).setCell ⟨R, 4, none⟩ e).setCell ⟨R, 5, none⟩ f) :=
 ((((((Chg.refl (fun g => g = R) W).setAt R 0 rfl a).setAt R 1 rfl b).setAt R 2 rfl c).setAt R 3 rfl d).setAt R 4 rfl e).setAt R 5 rfl f
theorem en_late_chg (W : World) (R : Nat) (b c d e f : Value) : Chg (fun g => g = R) W (((((W.setCell ⟨R, 1, none⟩ b).setCell ⟨R, 2, none⟩ c).setCell ⟨R, 3, none⟩ d).setCell ⟨R, 4, none⟩ e).setCell ⟨R, 5, none⟩ f) :=
 (((((Chg.refl (fun g => g = R) W).setAt R 1 rfl b).setAt R 2 rfl c).setAt R 3 rfl d).setAt R 4 rfl e).setAt R 5 rfl f

theorem toEntry_any (t c s o k v : Int) (w : World) :
  Calls Tryz.prog 107 #[enV t c s o k v] w fun e w' => e = .returned (enV t c s o k v) ∧ Below w.heap.size w w' := by
 have b0 : Below w.heap.size w (((w.alloc (.cells #[.int .i64 t, .int .i64 c, .int .i64 s, .int .i64 o, .int .i64 k, .int .i64 v] 171)).alloc (.cells #[.int .i64 0, .int .i64 0, .int .i64 0, .int .i64 0, .int .i64 0, .int .i64 0] 119)).alloc (.cells #[.int .i64 t, .int .i64 0, .int .i64 0, .int .i64 0, .int .i64 0, .int .i64 0] 119)) := (((Below.refl _ _).alloc (Nat.le_refl _) _).alloc (by simp) _).alloc (by simp; omega) _
 have n2 := heap_alloc_new ((w.alloc (.cells #[.int .i64 t, .int .i64 c, .int .i64 s, .int .i64 o, .int .i64 k, .int .i64 v] 171)).alloc (.cells #[.int .i64 0, .int .i64 0, .int .i64 0, .int .i64 0, .int .i64 0, .int .i64 0] 119)) (.cells #[.int .i64 t, .int .i64 0, .int .i64 0, .int .i64 0, .int .i64 0, .int .i64 0] 119)
 have n1 := row_chg (F := fun _ => False) (heap_alloc_new (w.alloc (.cells #[.int .i64 t, .int .i64 c, .int .i64 s, .int .i64 o, .int .i64 k, .int .i64 v] 171)) (.cells #[.int .i64 0, .int .i64 0, .int .i64 0, .int .i64 0, .int .i64 0, .int .i64 0] 119)) ((Chg.refl _ _).alloc (.cells #[.int .i64 t, .int .i64 0, .int .i64 0, .int .i64 0, .int .i64 0, .int .i64 0] 119)) id
 simp only [World.size_alloc] at n1 n2
 have H : Hid _ := And.intro b0 (And.intro n1 n2)
 clear b0 n1 n2
 go_enter Tryz.func107, Tryz.ntmps107
 go_wp2_with fail
 generalize (((w.alloc (.cells #[.int .i64 t, .int .i64 c, .int .i64 s, .int .i64 o, .int .i64 k, .int .i64 v] 171)).alloc (.cells #[.int .i64 0, .int .i64 0, .int .i64 0, .int .i64 0, .int .i64 0, .int .i64 0] 119)).alloc (.cells #[.int .i64 t, .int .i64 0, .int .i64 0, .int .i64 0, .int .i64 0, .int .i64 0] 119)) = W at *
 refine (toCmd_any _ _ _ _ _ _).mono ?_
 rintro e w1 ⟨rfl, hb⟩
 obtain ⟨b0, n1, n2⟩ := H.out
 have m1 := (hb.block _ (Array.getElem?_eq_some_iff.1 n1).1).trans n1
 have m2 := (hb.block _ (Array.getElem?_eq_some_iff.1 n2).1).trans n2
 have B1 := Below.and b0 hb
 have m3 := en_late (.int .i64 c) (.int .i64 s) (.int .i64 o) (.int .i64 k) (.int .i64 v) m2
 have g3 := en_late_chg w1 (w.heap.size + 1 + 1) (.int .i64 c) (.int .i64 s) (.int .i64 o) (.int .i64 k) (.int .i64 v)
 have m4 := row_chg m1 g3 (by omega)
 have m5 := en_six (.int .i64 t) (.int .i64 c) (.int .i64 s) (.int .i64 o) (.int .i64 k) (.int .i64 v) m4
 have g5 := en_six_chg (((((w1.setCell ⟨w.heap.size + 1 + 1, 1, none⟩ (.int .i64 c)).setCell ⟨w.heap.size + 1 + 1, 2, none⟩ (.int .i64 s)).setCell ⟨w.heap.size + 1 + 1, 3, none⟩ (.int .i64 o)).setCell ⟨w.heap.size + 1 + 1, 4, none⟩ (.int .i64 k)).setCell ⟨w.heap.size + 1 + 1, 5, none⟩ (.int .i64 v)) (w.heap.size + 1) (.int .i64 t) (.int .i64 c) (.int .i64 s) (.int .i64 o) (.int .i64 k) (.int .i64 v)
 have B2 := B1.trans (g3.below (fun g _ hg => by omega) B1.size)
 have B3 : Hid _ := B2.trans (g5.below (fun g _ hg => by omega) B2.size)
 have f1 : ∀ j, w1.frozen? ⟨w.heap.size + 1 + 1, j, none⟩ = false := fun j => frozen_of_cells m2
 have f2 : ∀ j, (((((w1.setCell ⟨w.heap.size + 1 + 1, 1, none⟩ (.int .i64 c)).setCell ⟨w.heap.size + 1 + 1, 2, none⟩ (.int .i64 s)).setCell ⟨w.heap.size + 1 + 1, 3, none⟩ (.int .i64 o)).setCell ⟨w.heap.size + 1 + 1, 4, none⟩ (.int .i64 k)).setCell ⟨w.heap.size + 1 + 1, 5, none⟩ (.int .i64 v)).frozen? ⟨w.heap.size + 1, j, none⟩ = false := fun j => frozen_of_cells m4
 have c2 : ∀ j, w1.cell? ⟨w.heap.size + 1 + 1, j, none⟩ = (#[.int .i64 t, .int .i64 0, .int .i64 0, .int .i64 0, .int .i64 0, .int .i64 0] : Array Value)[j]? := fun j => cell_of_cells m2
 have c3 : ∀ j, (((((w1.setCell ⟨w.heap.size + 1 + 1, 1, none⟩ (.int .i64 c)).setCell ⟨w.heap.size + 1 + 1, 2, none⟩ (.int .i64 s)).setCell ⟨w.heap.size + 1 + 1, 3, none⟩ (.int .i64 o)).setCell ⟨w.heap.size + 1 + 1, 4, none⟩ (.int .i64 k)).setCell ⟨w.heap.size + 1 + 1, 5, none⟩ (.int .i64 v)).cell? ⟨w.heap.size + 1 + 1, j, none⟩ = (#[.int .i64 t, .int .i64 c, .int .i64 s, .int .i64 o, .int .i64 k, .int .i64 v] : Array Value)[j]? := fun j => cell_of_cells m3
 have c4 : ∀ j, (((((w1.setCell ⟨w.heap.size + 1 + 1, 1, none⟩ (.int .i64 c)).setCell ⟨w.heap.size + 1 + 1, 2, none⟩ (.int .i64 s)).setCell ⟨w.heap.size + 1 + 1, 3, none⟩ (.int .i64 o)).setCell ⟨w.heap.size + 1 + 1, 4, none⟩ (.int .i64 k)).setCell ⟨w.heap.size + 1 + 1, 5, none⟩ (.int .i64 v)).cell? ⟨w.heap.size + 1, j, none⟩ = (#[.int .i64 0, .int .i64 0, .int .i64 0, .int .i64 0, .int .i64 0, .int .i64 0] : Array Value)[j]? := fun j => cell_of_cells m4
 have c5 : Hid _ := m5
 clear m1 m2 m3 m4 m5 g3 g5 B1 B2 n1 n2 b0 hb H
 go_wp2_with fail
 simp [bodyPost, results, Tryz.results107, go_sem, cell_of_cells c5.out]
 exact B3.out

theorem toEntryS_any (v : Value) (l : EL) (w : World) (hr : Row w v l.length (flatE l)) (hn : l.length ≤ 1048576) :
  Calls Tryz.prog 79 #[v] w fun e w' => ∃ v', e = .returned v' ∧ w'.ownsRow w.heap.size 119 6 v' l.length (flatE l) ∧ Below w.heap.size w w' := by
 obtain ⟨a, b, off, cap, rfl, hcap, hmax, ha, h10, h11, h12, h13, h14, h15⟩ := hr.ents
 obtain ⟨i0, hi, hz0, hz1, hz2⟩ := info_parts Tryz.info119
 unfold maxLen at hmax
 go_enter Tryz.func79, Tryz.ntmps79
 go_wp2_with (at_make; refine wpList_make_full _ rfl _ _ 62 rfl w.heap.size 119 i0 _ 6 Tryz.underlying62 hi hz0 hz1 .i64 .i64 _ _ l.length rfl rfl rfl rfl ?c1 ?c2 ?c3 ?_)
 case c1 => rw [hz2]; omega
 case c2 => unfold maxLen; omega
 case c3 => exact Nat.le_refl _
 intro w0 hown0 hgrow0
 have hb0 : Below w.heap.size w w0 := (Below.refl _ _).grown hgrow0 (Nat.le_refl _) (fun k hk => by cases hk)
 clear hgrow0
 go_wp2
 go_loopw [4] (fun i wr => ∃ k : Nat, k ≤ l.length ∧ i = .int .i64 k ∧ wr.ownsRow w.heap.size 119 6 (.slice (some ⟨w.heap.size, 0, none⟩) l.length l.length) l.length (flatE (filledE l k)) ∧ Below w.heap.size w wr)
  (fun i _ => l.length - (intOf i).toNat)
 case atStart => exact ⟨0, Nat.zero_le _, rfl, by rw [show (madeCells _ (l.length * 6)).toList = flatE (List.replicate l.length en0) from madeCells_ent l.length] at hown0; rw [show filledE l 0 = List.replicate l.length en0 by simp [filledE]]; exact hown0, hb0⟩
 case round =>
  obtain ⟨k, hkl, rfl, hown, hb⟩ := hrel
  clear hown0 hb0
  by_cases hlt : k < l.length
  ·have hal := ha (by omega)
   subst hal
   have d0 := (hb.cell (by exact cell_lt (h10 k hlt))).trans (h10 k hlt)
   have d1 := (hb.cell (by exact cell_lt (h11 k hlt))).trans (h11 k hlt)
   have d2 := (hb.cell (by exact cell_lt (h12 k hlt))).trans (h12 k hlt)
   have d3 := (hb.cell (by exact cell_lt (h13 k hlt))).trans (h13 k hlt)
   have d4 := (hb.cell (by exact cell_lt (h14 k hlt))).trans (h14 k hlt)
   have d5 := (hb.cell (by exact cell_lt (h15 k hlt))).trans (h15 k hlt)
   clear h10 h11 h12 h13 h14 h15 ha
   go_wp2_with fail
   refine (toEntry_any _ _ _ _ _ _ _).mono ?_
   rintro e w1 ⟨rfl, hb1⟩
   have own1 := owns_below hown hb1
   have hfl : (filledE l k).length = l.length := filledE_length l k hkl
   have hat := flatE_at (filledE l k) k (by omega)
   have e0 := (own1.cellAt (k * 6) (by omega)).trans hat.1
   have f0 := own1.frozenAt (k * 6)
   have e1 := (own1.cellAt (k * 6 + 1) (by omega)).trans hat.2.1
   have f1 := own1.frozenAt (k * 6 + 1)
   have e2 := (own1.cellAt (k * 6 + 2) (by omega)).trans hat.2.2.1
   have f2 := own1.frozenAt (k * 6 + 2)
   have e3 := (own1.cellAt (k * 6 + 3) (by omega)).trans hat.2.2.2.1
   have f3 := own1.frozenAt (k * 6 + 3)
   have e4 := (own1.cellAt (k * 6 + 4) (by omega)).trans hat.2.2.2.2.1
   have f4 := own1.frozenAt (k * 6 + 4)
   have e5 := (own1.cellAt (k * 6 + 5) (by omega)).trans hat.2.2.2.2.2
   have f5 := own1.frozenAt (k * 6 + 5)
   have st0 := (own1.stored (k * 6) (.int .i64 (eT l k))).1
   have st1 := (st0.stored (k * 6 + 1) (.int .i64 (eC l k))).1
   have st2 := (st1.stored (k * 6 + 2) (.int .i64 (eS l k))).1
   have st3 := (st2.stored (k * 6 + 3) (.int .i64 (eO l k))).1
   have st4 := (st3.stored (k * 6 + 4) (.int .i64 (eK l k))).1
   have st5 := (st4.stored (k * 6 + 5) (.int .i64 (eV l k))).1
   rw [flatE_set _ _ _ _ _ _ _ k (by omega), filledE_step l k hlt] at st5
   have hb2 : Below w.heap.size w w1 := hb.trans (hb1.mono hb.size)
   generalize eT (filledE l k) k = x0 at *
   generalize eC (filledE l k) k = x1 at *
   generalize eS (filledE l k) k = x2 at *
   generalize eO (filledE l k) k = x3 at *
   generalize eK (filledE l k) k = x4 at *
   generalize eV (filledE l k) k = x5 at *
   have ST : Hid _ := st5
   clear st0 st1 st2 st3 st4 st5 hown hb1 d0 d1 d2 d3 d4 d5 own1 hat hfl hr
   go_wp2
   go_roundw
   case rel => exact ⟨k + 1, by omega, by go_num, ST.out, ((((((hb2.setCell (Nat.le_refl _) _).setCell (Nat.le_refl _) _).setCell (Nat.le_refl _) _).setCell (Nat.le_refl _) _).setCell (Nat.le_refl _) _).setCell (Nat.le_refl _) _)⟩
   case measure => simp [intOf]; omega
  ·go_wp2
   go_ret
   have hkk : k = l.length := by omega
   subst hkk
   rw [filledE_full] at hown
   exact ⟨_, rfl, hown, hb⟩
end
section
open Go.RowKit

abbrev lgV (b t : Int) (v : Value) : Value := .agg #[.int .i64 b, .int .i64 t, v]

theorem szLog_any (b t : Int) (v : Value) (l : EL) (left : Int) (w : World) (h : Row w v l.length (flatE l)) (h0 : 0 ≤ left) (h1 : left ≤ 1048576) :
  Calls Tryz.prog 55 #[lgV b t v, .int .i64 left] w fun e w' => e = .returned (.int .i64 (if (l.length : Int) ≤ left then left - l.length else -1)) ∧ Below w.heap.size w w' := by
 obtain ⟨a, bb, off, cap, rfl, hcap, hmax, -⟩ := h.ents
 have B1 : Hid (Below w.heap.size w (w.alloc (.cells #[.int .i64 b, .int .i64 t, .slice a l.length cap] 48))) := bel_nw _ _
 have hn : l.length ≤ maxLen := by omega
 clear h hmax hcap
 generalize l.length = n at *
 by_cases hd : (n : Int) ≤ left
 ·have hn2 : ¬ (left - (n : Int) < 0) := by omega
  have E : Hid ((if (n : Int) ≤ left then left - n else -1) = left - n) := if_pos hd
  go_enter Tryz.func55, Tryz.ntmps55
  go_wp2_with fail
  refine Calls.mono (szEntryS_any a n cap left hn h0 h1 _) ?_
  rintro e w2 ⟨rfl, rfl⟩
  rw [E.out]
  go_wp2
  go_ret
  exact ⟨rfl, B1.out⟩
 ·have E : Hid ((if (n : Int) ≤ left then left - n else -1) = -1) := if_neg hd
  go_enter Tryz.func55, Tryz.ntmps55
  go_wp2_with fail
  refine Calls.mono (szEntryS_any a n cap left hn h0 h1 _) ?_
  rintro e w2 ⟨rfl, rfl⟩
  rw [E.out]
  go_wp2
  go_ret
  exact ⟨rfl, B1.out⟩

theorem eqLog_any (b t b2 t2 : Int) (v v2 : Value) (l l2 : EL) (w : World) (h : Row w v l.length (flatE l)) (h2 : Row w v2 l2.length (flatE l2)) :
  Calls Tryz.prog 67 #[lgV b t v, lgV b2 t2 v2] w fun e w' => e = .returned (.bool (decide (b = b2 ∧ t = t2 ∧ l = l2))) ∧ Below w.heap.size w w' := by
 have H : Hid _ := And.intro h h2
 have N1 : Hid (MBox 64 ((w.alloc (.cells #[.int .i64 b, .int .i64 t, v] 64)).alloc (.cells #[.int .i64 b2, .int .i64 t2, v2] 64)) w.heap.size #[.int .i64 b, .int .i64 t, v]) := (MBox.start _ _ _).step (bel_nw _ _)
 have N2 : Hid (MBox 64 ((w.alloc (.cells #[.int .i64 b, .int .i64 t, v] 64)).alloc (.cells #[.int .i64 b2, .int .i64 t2, v2] 64)) (w.alloc (.cells #[.int .i64 b, .int .i64 t, v] 64)).heap.size #[.int .i64 b2, .int .i64 t2, v2]) := MBox.start _ _ _
 have B2 : Hid (Below w.heap.size w ((w.alloc (.cells #[.int .i64 b, .int .i64 t, v] 64)).alloc (.cells #[.int .i64 b2, .int .i64 t2, v2] 64))) := Below.and (bel_nw _ _) (bel_nw _ _)
 have e1 : (w.alloc (.cells #[.int .i64 b, .int .i64 t, v] 64)).heap.size = w.heap.size + 1 := by simp
 rw [e1] at N2
 have c1 := N1.out.cells
 have d1 := N2.out.cells
 clear h h2 e1
 by_cases hb : b = b2
 ·by_cases ht : t = t2
  ·subst hb ht
   have E : Hid (decide (b = b ∧ t = t ∧ l = l2) = decide (l = l2)) := by show _ = _; simp
   go_enter Tryz.func67, Tryz.ntmps67
   go_wp2_with fail
   generalize (w.alloc (.cells #[.int .i64 b, .int .i64 t, v] 64)).alloc (.cells #[.int .i64 b, .int .i64 t, v2] 64) = W at *
   refine Calls.mono (eqEntryS_any v v2 l l2 W (H.out.1.below B2.out) (H.out.2.below B2.out)) ?_
   rintro e w2 ⟨rfl, b2⟩
   have B3 : Hid (Below w.heap.size w w2) := Below.and B2.out b2
   clear b2
   generalize hq : decide (l = l2) = q
   cases q
   ·have HQ : Hid (decide (l = l2) = false) := hq
    clear hq
    go_wp2
    go_ret
    exact ⟨ret_bool (E.out.trans HQ.out).symm, B3.out⟩
   ·have HQ : Hid (decide (l = l2) = true) := hq
    clear hq
    go_wp2
    go_ret
    exact ⟨ret_bool (E.out.trans HQ.out).symm, B3.out⟩
  ·have hs' : (t != t2) = true := by simpa using ht
   have E : Hid (decide (b = b2 ∧ t = t2 ∧ l = l2) = false) := by show _ = _; simp [ht]
   subst hb
   go_enter Tryz.func67, Tryz.ntmps67
   go_wp2_with fail
   go_ret
   exact ⟨ret_bool (by first | exact E.out.symm | rfl), B2.out⟩
 ·have hs' : (b != b2) = true := by simpa using hb
  have E : Hid (decide (b = b2 ∧ t = t2 ∧ l = l2) = false) := by show _ = _; simp [hb]
  go_enter Tryz.func67, Tryz.ntmps67
  go_wp2_with fail
  go_ret
  exact ⟨ret_bool (by first | exact E.out.symm | rfl), B2.out⟩

theorem lg_last {W : World} {R : Nat} {t : TypeId} {x0 x1 x2 : Value} (c : Value) (h : W.heap[R]? = some (.cells #[x0, x1, x2] t (0, 0))) : (W.setCell ⟨R, 2, none⟩ c).heap[R]? = some (.cells #[x0, x1, c] t (0, 0)) := by
 have h2 := heap_setCell_same _ R 2 _ _ c h
 simpa using h2
theorem lg_all {W : World} {R : Nat} {t : TypeId} {x0 x1 x2 : Value} (a b c : Value) (h : W.heap[R]? = some (.cells #[x0, x1, x2] t (0, 0))) : (((W.setCell ⟨R, 0, none⟩ a).setCell ⟨R, 1, none⟩ b).setCell ⟨R, 2, none⟩ c).heap[R]? = some (.cells #[a, b, c] t (0, 0)) := by
 have h0 := heap_setCell_same _ R 0 _ _ a h
 have h1 := heap_setCell_same _ R 1 _ _ b h0
 have h2 := heap_setCell_same _ R 2 _ _ c h1
 simpa using h2
theorem lg_last_chg (W : World) (R : Nat) (c : Value) : Chg (fun g => g = R) W (W.setCell ⟨R, 2, none⟩ c) := (Chg.refl (fun g => g = R) W).setAt R 2 rfl c
theorem lg_all_chg (W : World) (R : Nat) (a b c : Value) : Chg (fun g => g = R) W (((W.setCell ⟨R, 0, none⟩ a).setCell ⟨R, 1, none⟩ b).setCell ⟨R, 2, none⟩ c) :=
 (((Chg.refl (fun g => g = R) W).setAt R 0 rfl a).setAt R 1 rfl b).setAt R 2 rfl c

theorem toLog_any (b t : Int) (v : Value) (l : EL) (w : World) (h : Row w v l.length (flatE l)) (hl : l.length ≤ 1048576) :
  Calls Tryz.prog 61 #[lgV b t v] w fun e w' => ∃ v' : Value, e = .returned (lgV b t v') ∧ w'.ownsRow w.heap.size 119 6 v' l.length (flatE l) ∧ Below w.heap.size w w' := by
 have b0 : Below w.heap.size w (((w.alloc (.cells #[.int .i64 b, .int .i64 t, v] 48)).alloc (.cells #[.int .i64 0, .int .i64 0, .slice none 0 0] 64)).alloc (.cells #[.int .i64 b, .int .i64 t, .slice none 0 0] 64)) := (((Below.refl _ _).alloc (Nat.le_refl _) _).alloc (by simp) _).alloc (by simp; omega) _
 have n1 := MBox.step (MBox.start 64 (w.alloc (.cells #[.int .i64 b, .int .i64 t, v] 48)) #[.int .i64 0, .int .i64 0, .slice none 0 0]) (bel_nw _ (.cells #[.int .i64 b, .int .i64 t, .slice none 0 0] 64))
 have n2 := MBox.start 64 ((w.alloc (.cells #[.int .i64 b, .int .i64 t, v] 48)).alloc (.cells #[.int .i64 0, .int .i64 0, .slice none 0 0] 64)) #[.int .i64 b, .int .i64 t, .slice none 0 0]
 simp only [World.size_alloc] at n1 n2
 have zz : (((w.alloc (.cells #[.int .i64 b, .int .i64 t, v] 48)).alloc (.cells #[.int .i64 0, .int .i64 0, .slice none 0 0] 64)).alloc (.cells #[.int .i64 b, .int .i64 t, .slice none 0 0] 64)).heap.size = w.heap.size + 3 := by simp
 have H : Hid _ := And.intro h (And.intro b0 (And.intro n1 (And.intro n2 zz)))
 clear h b0 n1 n2 zz
 go_enter Tryz.func61, Tryz.ntmps61
 go_wp2_with fail
 generalize (((w.alloc (.cells #[.int .i64 b, .int .i64 t, v] 48)).alloc (.cells #[.int .i64 0, .int .i64 0, .slice none 0 0] 64)).alloc (.cells #[.int .i64 b, .int .i64 t, .slice none 0 0] 64)) = W at *
 obtain ⟨h, b0, n1, n2, zz⟩ := H.out
 clear H
 refine (toEntryS_any v l W (h.below b0) hl).mono ?_
 rintro e w3 ⟨v3, rfl, o3, b3⟩
 obtain ⟨a5, q5, hv3⟩ := owns_val o3
 subst hv3
 generalize hm5 : l.length = m5 at *
 have s1 := (b3.block _ (Array.getElem?_eq_some_iff.1 n1).1).trans n1
 have s2 := (b3.block _ (Array.getElem?_eq_some_iff.1 n2).1).trans n2
 have B3 := Below.and b0 b3
 have u2 := lg_last (.slice a5 m5 q5) s2
 have g3 := lg_last_chg w3 (w.heap.size + 1 + 1) (.slice a5 m5 q5)
 have u1 := row_chg s1 g3 (by omega)
 have o4 := owns_chg o3 g3 (fun g hg e => by have := (o3.lt g hg).1; omega)
 have B4 := B3.trans (g3.below (fun g _ hg => by omega) B3.size)
 have x1 := lg_all (.int .i64 b) (.int .i64 t) (.slice a5 m5 q5) u1
 have g5 := lg_all_chg (w3.setCell ⟨w.heap.size + 1 + 1, 2, none⟩ (.slice a5 m5 q5)) (w.heap.size + 1) (.int .i64 b) (.int .i64 t) (.slice a5 m5 q5)
 have o5 := owns_chg o4 g5 (fun g hg e => by have := (o4.lt g hg).1; omega)
 have B5 := B4.trans (g5.below (fun g _ hg => by omega) B4.size)
 have f2 : ∀ j, w3.frozen? ⟨w.heap.size + 1 + 1, j, none⟩ = false := fun j => frozen_of_cells s2
 have f3 : ∀ j, (w3.setCell ⟨w.heap.size + 1 + 1, 2, none⟩ (.slice a5 m5 q5)).frozen? ⟨w.heap.size + 1, j, none⟩ = false := fun j => frozen_of_cells u1
 have c2 : ∀ j, w3.cell? ⟨w.heap.size + 1 + 1, j, none⟩ = (#[.int .i64 b, .int .i64 t, .slice none 0 0] : Array Value)[j]? := fun j => cell_of_cells s2
 have c3 : ∀ j, (w3.setCell ⟨w.heap.size + 1 + 1, 2, none⟩ (.slice a5 m5 q5)).cell? ⟨w.heap.size + 1 + 1, j, none⟩ = (#[.int .i64 b, .int .i64 t, .slice a5 m5 q5] : Array Value)[j]? := fun j => cell_of_cells u2
 have c4 : ∀ j, (w3.setCell ⟨w.heap.size + 1 + 1, 2, none⟩ (.slice a5 m5 q5)).cell? ⟨w.heap.size + 1, j, none⟩ = (#[.int .i64 0, .int .i64 0, .slice none 0 0] : Array Value)[j]? := fun j => cell_of_cells u1
 have X1 : Hid _ := x1
 have K : Hid _ := And.intro (owns_mono (base' := w.heap.size) o5 (by omega)) B5
 clear s1 s2 B3 u2 g3 u1 o4 B4 x1 g5 o5 B5 o3 b3 n1 n2 b0 h zz
 go_wp2_with fail
 simp [bodyPost, results, Tryz.results61, go_sem, cell_of_cells X1.out]
 rw [hm5]
 exact K.out
end
section
open Go.RowKit

def flatL (l : List Bool) : List Value := l.map Value.bool
def bOf (l : List Bool) (i : Nat) : Bool := l.getD i false
theorem flatL_length (l : List Bool) : (flatL l).length = l.length := by simp [flatL]
theorem flatL_at (l : List Bool) (i : Nat) (h : i < l.length) : (flatL l)[i]? = some (.bool (bOf l i)) := by simp [flatL, bOf, List.getD, h]
theorem flatL_append (l m : List Bool) : flatL (l ++ m) = flatL l ++ flatL m := by simp [flatL]
theorem flatL_set (l : List Bool) (s : Bool) (i : Nat) : (flatL l).set i (.bool s) = flatL (l.set i s) := by simp [flatL, List.map_set]
theorem takeL_succ (l : List Bool) (k : Nat) (hk : k < l.length) : l.take (k + 1) = l.take k ++ [bOf l k] := by
 rw [List.take_succ_eq_append_getElem hk]; simp [bOf, List.getD, hk]
theorem Row.bools {w : World} {v : Value} {l : List Bool} (h : Row w v l.length (flatL l)) :
  ∃ (a : Option Addr) (b off cap : Nat), v = .slice a l.length cap ∧ l.length ≤ cap ∧ cap ≤ maxLen ∧ (0 < l.length → a = some ⟨b, off, none⟩) ∧
   (∀ i, i < l.length → w.cell? ⟨b, off + i, none⟩ = some (.bool (bOf l i))) := by
 obtain ⟨a, b, off, cap, h1, h2, h3, h4, h5, _⟩ := h
 exact ⟨a, b, off, cap, h1, h2, h3, h4, fun i hi => h5 _ _ (flatL_at l i hi)⟩
theorem extL {l1 l2 : List Bool} (hl : l1.length = l2.length) (h : ∀ i, i < l1.length → bOf l1 i = bOf l2 i) : l1 = l2 := by
 apply List.ext_getElem hl
 intro i h1 h2
 have := h i h1
 simpa [bOf, List.getD, h1, h2] using this

theorem Tryz.info4 : (Tryz.prog.info? 4).map (fun i => (i.zero, i.size, i.bytes)) = some (some (.bool false), 1, 1) := by kernel_rfl

def filledL (l : List Bool) (k : Nat) : List Value := flatL (l.take k) ++ List.replicate (l.length - k) (.bool false)
theorem filledL_full (l : List Bool) : filledL l l.length = flatL l := by simp [filledL]
theorem filledL_zero (l : List Bool) (k : Nat) (hk : k < l.length) : (filledL l k)[k]? = some (.bool false) := by
 have hl : (flatL (l.take k)).length = k := by rw [flatL_length]; simp; omega
 rw [filledL, List.getElem?_append_right (by omega), List.getElem?_replicate_of_lt (by omega)]
theorem filledL_step (l : List Bool) (k : Nat) (hk : k < l.length) : (filledL l k).set k (.bool (bOf l k)) = filledL l (k + 1) := by
 have hl : (flatL (l.take k)).length = k := by rw [flatL_length]; simp; omega
 obtain ⟨m, hm⟩ : ∃ m, l.length - k = m + 1 := ⟨l.length - k - 1, by omega⟩
 have hm2 : l.length - (k + 1) = m := by omega
 rw [filledL, filledL, takeL_succ l k hk, flatL_append, hm, hm2, List.replicate_succ]
 rw [List.set_append_right _ _ (by omega), hl, Nat.sub_self, List.set_cons_zero]
 simp [flatL]

theorem toBoolS_any (v : Value) (l : List Bool) (w : World) (hr : Row w v l.length (flatL l)) (hn : l.length ≤ 1048576) :
  Calls Tryz.prog 63 #[v] w fun e w' => ∃ v', e = .returned v' ∧ w'.ownsRow w.heap.size 4 1 v' l.length (flatL l) ∧ Below w.heap.size w w' := by
 obtain ⟨a, b, off, cap, rfl, hcap, hmax, ha, hk⟩ := hr.bools
 obtain ⟨i0, hi, hz0, hz1, hz2⟩ := info_parts Tryz.info4
 unfold maxLen at hmax
 go_enter Tryz.func63, Tryz.ntmps63
 go_wp2_with (at_make; refine wpList_make_full _ rfl _ _ 57 rfl w.heap.size 4 i0 _ 1 Tryz.underlying57 hi hz0 hz1 .i64 .i64 _ _ l.length rfl rfl rfl rfl ?c1 ?c2 ?c3 ?_)
 case c1 => rw [hz2]; omega
 case c2 => unfold maxLen; omega
 case c3 => exact Nat.le_refl _
 intro w0 hown0 hgrow0
 have hb0 : Below w.heap.size w w0 := (Below.refl _ _).grown hgrow0 (Nat.le_refl _) (fun k hk => by cases hk)
 clear hgrow0
 go_wp2
 go_loopw [4] (fun i wr => ∃ k : Nat, k ≤ l.length ∧ i = .int .i64 k ∧ wr.ownsRow w.heap.size 4 1 (.slice (some ⟨w.heap.size, 0, none⟩) l.length l.length) l.length (filledL l k) ∧ Below w.heap.size w wr)
  (fun i _ => l.length - (intOf i).toNat)
 case atStart => exact ⟨0, Nat.zero_le _, rfl, by rw [madeCells_all _ (.bool false) (by decide) (fun i hi => by match i, hi with | 0, _ => rfl)] at hown0; simpa [filledL, flatL] using hown0, hb0⟩
 case round =>
  obtain ⟨k, hkl, rfl, hown, hb⟩ := hrel
  clear hown0 hb0
  by_cases hlt : k < l.length
  ·have hal := ha (by omega)
   subst hal
   have c0 := hk k hlt
   have d0 : wr.cell? ⟨b, off + k, none⟩ = some (.bool (bOf l k)) := (hb.cell (by exact cell_lt c0)).trans c0
   have e0 := (hown.cellAt k (by omega)).trans (filledL_zero l k hlt)
   have f0 := hown.frozenAt k
   have st := (hown.stored k (.bool (bOf l k))).1
   rw [filledL_step l k hlt] at st
   have ST : Hid ((wr.setCell ⟨w.heap.size, k, none⟩ (.bool (bOf l k))).ownsRow w.heap.size 4 1 (.slice (some ⟨w.heap.size, 0, none⟩) l.length l.length) l.length (filledL l (k + 1))) := st
   have HB : Hid _ := hb
   clear hk c0 ha st hown hb
   go_wp2
   go_roundw
   case rel => exact ⟨k + 1, by omega, by go_num, ST.out, HB.out.setCell (Nat.le_refl _) _⟩
   case measure => simp [intOf]; omega
  ·go_wp2
   go_ret
   have hkk : k = l.length := by omega
   subst hkk
   rw [filledL_full] at hown
   exact ⟨_, rfl, hown, hb⟩

theorem eqBoolS_any (v1 v2 : Value) (l1 l2 : List Bool) (w : World) (h1 : Row w v1 l1.length (flatL l1)) (h2 : Row w v2 l2.length (flatL l2)) :
  Calls Tryz.prog 69 #[v1, v2] w fun e w' => e = .returned (.bool (decide (l1 = l2))) ∧ Below w.heap.size w w' := by
 obtain ⟨a, b, off, cap, rfl, hcap, hmax, ha, hk⟩ := h1.bools
 obtain ⟨a2, b2, off2, cap2, rfl, hcap2, hmax2, ha2, hk2⟩ := h2.bools
 unfold maxLen at hmax hmax2
 by_cases hl : l1.length = l2.length
 ·have hne : ((l1.length : Int) != (l2.length : Int)) = false := by rw [bne_eq_false_iff_eq]; omega
  have HL : Hid (l1.length = l2.length) := hl
  have hl2 : l1.length ≤ l2.length := by omega
  clear hl
  go_enter Tryz.func69, Tryz.ntmps69
  go_wp2
  go_loopw [5] (fun i wr => ∃ k : Nat, k ≤ l1.length ∧ i = .int .i64 k ∧ Hid (∀ i, i < k → bOf l1 i = bOf l2 i) ∧ Below w.heap.size w wr)
   (fun i _ => l1.length - (intOf i).toNat)
  case atStart => exact ⟨0, Nat.zero_le _, rfl, fun i hi => absurd hi (Nat.not_lt_zero _), Below.refl _ _⟩
  case round =>
   obtain ⟨k, hkl, rfl, ALL, hb⟩ := hrel
   by_cases hlt : k < l1.length
   ·have hal := ha (by omega)
    subst hal
    have hal2 := ha2 (by omega)
    subst hal2
    have hlt2 : k < l2.length := by omega
    have d0 := (hb.cell (by exact cell_lt (hk k hlt))).trans (hk k hlt)
    have d1 := (hb.cell (by exact cell_lt (hk2 k hlt2))).trans (hk2 k hlt2)
    clear hk ha hk2 ha2
    by_cases hq : bOf l1 k = bOf l2 k
    ·have hq' : (bOf l1 k == bOf l2 k) = true := by rw [beq_iff_eq]; exact hq
     have EQ : Hid (bOf l1 k = bOf l2 k) := hq
     clear hq
     go_wp2_with fail
     go_quiet (fail)
     go_wp2
     go_roundw
     case rel => exact ⟨k + 1, by omega, by go_num, fun i hi => if h : i < k then ALL.out i h else by rw [show i = k by omega]; exact EQ.out, below_drewN hb _⟩
     case measure => simp [intOf]; omega
    ·have hq' : (bOf l1 k == bOf l2 k) = false := by rw [beq_eq_false_iff_ne]; exact hq
     have NE : Hid (decide (l1 = l2) = false) := decide_eq_false (fun e => hq (by rw [e]))
     clear hq
     go_wp2_with fail
     go_quiet (fail)
     go_wp2
     go_ret
     exact ⟨ret_bool NE.out.symm, below_drewN hb _⟩
   ·go_wp2
    go_ret
    refine ⟨ret_bool ?_, hb⟩
    symm
    rw [decide_eq_true_iff]
    exact extL HL.out (fun i hi => ALL.out i (by omega))
 ·have hne : ((l1.length : Int) != (l2.length : Int)) = true := by rw [bne_iff_ne]; omega
  go_enter Tryz.func69, Tryz.ntmps69
  go_wp2
  go_ret
  refine ⟨ret_bool ?_, Below.refl _ _⟩
  symm
  rw [decide_eq_false_iff_not]
  intro h; exact hl (by rw [h])
end
end Go.Proofs.YtkcaelfkcepdkaaGreat
