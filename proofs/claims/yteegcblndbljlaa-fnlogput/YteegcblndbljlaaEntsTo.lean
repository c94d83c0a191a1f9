/-
  toEntry, toEntryS: entries copied out of the law's own kind.
-/
import Derived.Test.YteegcblndbljlaaEnts
import Derived.Test.YteegcblndbljlaaCmd
namespace Go.Proofs.Yteegcblndbljlaa
open Go.RowKit

theorem en_six {W : World} {R : Nat} {t : TypeId} {x0 x1 x2 x3 x4 x5 : Value} (a b c d e f : Value) (h : W.heap[R]? = some (.cells #[x0, x1, x2, x3, x4, x5] t (0, 0))) : ((((((W.setCell ⟨R, 0, none⟩ a).setCell ⟨R, 1, none⟩ b).setCell ⟨R, 2, none⟩ c).setCell ⟨R, 3, none⟩ d).setCell ⟨R, 4, none⟩ e).setCell ⟨R, 5, none⟩ f).heap[R]? = some (.cells #[a, b, c, d, e, f] t (0, 0)) := by
  have h0 := heap_setCell_same W R 0 _ _ a h
  have h1 := heap_setCell_same _ R 1 _ _ b h0
  have h2 := heap_setCell_same _ R 2 _ _ c h1
  have h3 := heap_setCell_same _ R 3 _ _ d h2
  have h4 := heap_setCell_same _ R 4 _ _ e h3
  have h5 := heap_setCell_same _ R 5 _ _ f h4
  simpa using h5
theorem en_late {W : World} {R : Nat} {t : TypeId} {x0 x1 x2 x3 x4 x5 : Value} (b c d e f : Value) (h : W.heap[R]? = some (.cells #[x0, x1, x2, x3, x4, x5] t (0, 0))) : (((((W.setCell ⟨R, 1, none⟩ b).setCell ⟨R, 2, none⟩ c).setCell ⟨R, 3, none⟩ d).setCell ⟨R, 4, none⟩ e).setCell ⟨R, 5, none⟩ f).heap[R]? = some (.cells #[x0, b, c, d, e, f] t (0, 0)) := by
  have h1 := heap_setCell_same _ R 1 _ _ b h
  have h2 := heap_setCell_same _ R 2 _ _ c h1
  have h3 := heap_setCell_same _ R 3 _ _ d h2
  have h4 := heap_setCell_same _ R 4 _ _ e h3
  have h5 := heap_setCell_same _ R 5 _ _ f h4
  simpa using h5
theorem en_six_chg (W : World) (R : Nat) (a b c d e f : Value) : Chg (fun g => g = R) W ((((((W.setCell ⟨R, 0, none⟩ a).setCell ⟨R, 1, none⟩ b).setCell ⟨R, 2, none⟩ c).setCell ⟨R, 3, none⟩ d).setCell ⟨R, 4, none⟩ e).setCell ⟨R, 5, none⟩ f) :=
  ((((((Chg.refl (fun g => g = R) W).setAt R 0 rfl a).setAt R 1 rfl b).setAt R 2 rfl c).setAt R 3 rfl d).setAt R 4 rfl e).setAt R 5 rfl f
theorem en_late_chg (W : World) (R : Nat) (b c d e f : Value) : Chg (fun g => g = R) W (((((W.setCell ⟨R, 1, none⟩ b).setCell ⟨R, 2, none⟩ c).setCell ⟨R, 3, none⟩ d).setCell ⟨R, 4, none⟩ e).setCell ⟨R, 5, none⟩ f) :=
  (((((Chg.refl (fun g => g = R) W).setAt R 1 rfl b).setAt R 2 rfl c).setAt R 3 rfl d).setAt R 4 rfl e).setAt R 5 rfl f

set_option maxHeartbeats 2000000 in
theorem toEntry_any (t c s o k v : Int) (w : World) :
    Calls Try.prog 64 #[enV t c s o k v] w fun e w' => e = .returned (enV t c s o k v) ∧ Below w.heap.size w w' := by
  have b0 : Below w.heap.size w (((w.alloc (.cells #[.int .i64 t, .int .i64 c, .int .i64 s, .int .i64 o, .int .i64 k, .int .i64 v] 85)).alloc (.cells #[.int .i64 0, .int .i64 0, .int .i64 0, .int .i64 0, .int .i64 0, .int .i64 0] 39)).alloc (.cells #[.int .i64 t, .int .i64 0, .int .i64 0, .int .i64 0, .int .i64 0, .int .i64 0] 39)) := (((Below.refl _ _).alloc (Nat.le_refl _) _).alloc (by simp) _).alloc (by simp; omega) _
  have n2 := heap_alloc_new ((w.alloc (.cells #[.int .i64 t, .int .i64 c, .int .i64 s, .int .i64 o, .int .i64 k, .int .i64 v] 85)).alloc (.cells #[.int .i64 0, .int .i64 0, .int .i64 0, .int .i64 0, .int .i64 0, .int .i64 0] 39)) (.cells #[.int .i64 t, .int .i64 0, .int .i64 0, .int .i64 0, .int .i64 0, .int .i64 0] 39)
  have n1 := row_chg (F := fun _ => False) (heap_alloc_new (w.alloc (.cells #[.int .i64 t, .int .i64 c, .int .i64 s, .int .i64 o, .int .i64 k, .int .i64 v] 85)) (.cells #[.int .i64 0, .int .i64 0, .int .i64 0, .int .i64 0, .int .i64 0, .int .i64 0] 39)) ((Chg.refl _ _).alloc (.cells #[.int .i64 t, .int .i64 0, .int .i64 0, .int .i64 0, .int .i64 0, .int .i64 0] 39)) id
  simp only [World.size_alloc] at n1 n2
  have H : Hid _ := And.intro b0 (And.intro n1 n2)
  clear b0 n1 n2
  go_enter Try.func64, Try.ntmps64
  go_wp2_with fail
  generalize (((w.alloc (.cells #[.int .i64 t, .int .i64 c, .int .i64 s, .int .i64 o, .int .i64 k, .int .i64 v] 85)).alloc (.cells #[.int .i64 0, .int .i64 0, .int .i64 0, .int .i64 0, .int .i64 0, .int .i64 0] 39)).alloc (.cells #[.int .i64 t, .int .i64 0, .int .i64 0, .int .i64 0, .int .i64 0, .int .i64 0] 39)) = W at *
  refine (toCmd_any _ _ _ _ _ _).mono ?_
  rintro e w1 ⟨rfl, hb⟩
  obtain ⟨b0, n1, n2⟩ := H.out
  have m1 := (hb.block _ (Array.getElem?_eq_some_iff.1 n1).1).trans n1
  have m2 := (hb.block _ (Array.getElem?_eq_some_iff.1 n2).1).trans n2
  have B1 := Below.and b0 hb
  have m3 := en_late (.int .i64 c) (.int .i64 s) (.int .i64 o) (.int .i64 k) (.int .i64 v) m2
  have g3 := en_late_chg w1 (w.heap.size + 1 + 1) (.int .i64 c) (.int .i64 s) (.int .i64 o) (.int .i64 k) (.int .i64 v)
  have m4 := row_chg m1 g3 (by omega)
  have m5 := en_six (.int .i64 t) (.int .i64 c) (.int .i64 s) (.int .i64 o) (.int .i64 k) (.int .i64 v) m4
  have g5 := en_six_chg (((((w1.setCell ⟨w.heap.size + 1 + 1, 1, none⟩ (.int .i64 c)).setCell ⟨w.heap.size + 1 + 1, 2, none⟩ (.int .i64 s)).setCell ⟨w.heap.size + 1 + 1, 3, none⟩ (.int .i64 o)).setCell ⟨w.heap.size + 1 + 1, 4, none⟩ (.int .i64 k)).setCell ⟨w.heap.size + 1 + 1, 5, none⟩ (.int .i64 v)) (w.heap.size + 1) (.int .i64 t) (.int .i64 c) (.int .i64 s) (.int .i64 o) (.int .i64 k) (.int .i64 v)
  have B2 := B1.trans (g3.below (fun g _ hg => by omega) B1.size)
  have B3 : Hid _ := B2.trans (g5.below (fun g _ hg => by omega) B2.size)
  have f1 : ∀ j, w1.frozen? ⟨w.heap.size + 1 + 1, j, none⟩ = false := fun j => frozen_of_cells m2
  have f2 : ∀ j, (((((w1.setCell ⟨w.heap.size + 1 + 1, 1, none⟩ (.int .i64 c)).setCell ⟨w.heap.size + 1 + 1, 2, none⟩ (.int .i64 s)).setCell ⟨w.heap.size + 1 + 1, 3, none⟩ (.int .i64 o)).setCell ⟨w.heap.size + 1 + 1, 4, none⟩ (.int .i64 k)).setCell ⟨w.heap.size + 1 + 1, 5, none⟩ (.int .i64 v)).frozen? ⟨w.heap.size + 1, j, none⟩ = false := fun j => frozen_of_cells m4
  have c2 : ∀ j, w1.cell? ⟨w.heap.size + 1 + 1, j, none⟩ = (#[.int .i64 t, .int .i64 0, .int .i64 0, .int .i64 0, .int .i64 0, .int .i64 0] : Array Value)[j]? := fun j => cell_of_cells m2
  have c3 : ∀ j, (((((w1.setCell ⟨w.heap.size + 1 + 1, 1, none⟩ (.int .i64 c)).setCell ⟨w.heap.size + 1 + 1, 2, none⟩ (.int .i64 s)).setCell ⟨w.heap.size + 1 + 1, 3, none⟩ (.int .i64 o)).setCell ⟨w.heap.size + 1 + 1, 4, none⟩ (.int .i64 k)).setCell ⟨w.heap.size + 1 + 1, 5, none⟩ (.int .i64 v)).cell? ⟨w.heap.size + 1 + 1, j, none⟩ = (#[.int .i64 t, .int .i64 c, .int .i64 s, .int .i64 o, .int .i64 k, .int .i64 v] : Array Value)[j]? := fun j => cell_of_cells m3
  have c4 : ∀ j, (((((w1.setCell ⟨w.heap.size + 1 + 1, 1, none⟩ (.int .i64 c)).setCell ⟨w.heap.size + 1 + 1, 2, none⟩ (.int .i64 s)).setCell ⟨w.heap.size + 1 + 1, 3, none⟩ (.int .i64 o)).setCell ⟨w.heap.size + 1 + 1, 4, none⟩ (.int .i64 k)).setCell ⟨w.heap.size + 1 + 1, 5, none⟩ (.int .i64 v)).cell? ⟨w.heap.size + 1, j, none⟩ = (#[.int .i64 0, .int .i64 0, .int .i64 0, .int .i64 0, .int .i64 0, .int .i64 0] : Array Value)[j]? := fun j => cell_of_cells m4
  have c5 : Hid _ := m5
  clear m1 m2 m3 m4 m5 g3 g5 B1 B2 n1 n2 b0 hb H
  go_wp2_with fail
  simp [bodyPost, results, Try.results64, go_sem, cell_of_cells c5.out]
  exact B3.out


set_option maxRecDepth 100000 in
set_option maxHeartbeats 2000000 in
theorem toEntryS_any (v : Value) (l : EL) (w : World) (hr : Row w v l.length (flatE l)) (hn : l.length ≤ 1048576) :
    Calls Try.prog 42 #[v] w fun e w' => ∃ v', e = .returned v' ∧ w'.ownsRow w.heap.size 39 6 v' l.length (flatE l) ∧ Below w.heap.size w w' := by
  obtain ⟨a, b, off, cap, rfl, hcap, hmax, ha, h10, h11, h12, h13, h14, h15⟩ := hr.ents
  obtain ⟨i0, hi, hz0, hz1, hz2⟩ := info_parts Try.info39
  unfold maxLen at hmax
  go_enter Try.func42, Try.ntmps42
  go_wp2_with (at_make; refine wpList_make_full _ rfl _ _ 24 rfl w.heap.size 39 i0 _ 6 Try.underlying24 hi hz0 hz1 .i64 .i64 _ _ l.length rfl rfl rfl rfl ?c1 ?c2 ?c3 ?_)
  case c1 => rw [hz2]; omega
  case c2 => unfold maxLen; omega
  case c3 => exact Nat.le_refl _
  intro w0 hown0 hgrow0
  have hb0 : Below w.heap.size w w0 := (Below.refl _ _).grown hgrow0 (Nat.le_refl _) (fun k hk => by cases hk)
  clear hgrow0
  go_wp2
  go_loopw [4] (fun i wr => ∃ k : Nat, k ≤ l.length ∧ i = .int .i64 k ∧ wr.ownsRow w.heap.size 39 6 (.slice (some ⟨w.heap.size, 0, none⟩) l.length l.length) l.length (flatE (filledE l k)) ∧ Below w.heap.size w wr)
    (fun i _ => l.length - (intOf i).toNat)
  case atStart => exact ⟨0, Nat.zero_le _, rfl, by rw [show (madeCells _ (l.length * 6)).toList = flatE (List.replicate l.length en0) from madeCells_ent l.length] at hown0; rw [show filledE l 0 = List.replicate l.length en0 by simp [filledE]]; exact hown0, hb0⟩
  case round =>
    obtain ⟨k, hkl, rfl, hown, hb⟩ := hrel
    clear hown0 hb0
    by_cases hlt : k < l.length
    · have hal := ha (by omega)
      subst hal
      have d0 := (hb.cell (by exact cell_lt (h10 k hlt))).trans (h10 k hlt)
      have d1 := (hb.cell (by exact cell_lt (h11 k hlt))).trans (h11 k hlt)
      have d2 := (hb.cell (by exact cell_lt (h12 k hlt))).trans (h12 k hlt)
      have d3 := (hb.cell (by exact cell_lt (h13 k hlt))).trans (h13 k hlt)
      have d4 := (hb.cell (by exact cell_lt (h14 k hlt))).trans (h14 k hlt)
      have d5 := (hb.cell (by exact cell_lt (h15 k hlt))).trans (h15 k hlt)
      clear h10 h11 h12 h13 h14 h15 ha
      go_wp2_with fail
      refine (toEntry_any _ _ _ _ _ _ _).mono ?_
      rintro e w1 ⟨rfl, hb1⟩
      have own1 := owns_below hown hb1
      have hfl : (filledE l k).length = l.length := filledE_length l k hkl
      have hat := flatE_at (filledE l k) k (by omega)
      have e0 := (own1.cellAt (k * 6) (by omega)).trans hat.1
      have f0 := own1.frozenAt (k * 6)
      have e1 := (own1.cellAt (k * 6 + 1) (by omega)).trans hat.2.1
      have f1 := own1.frozenAt (k * 6 + 1)
      have e2 := (own1.cellAt (k * 6 + 2) (by omega)).trans hat.2.2.1
      have f2 := own1.frozenAt (k * 6 + 2)
      have e3 := (own1.cellAt (k * 6 + 3) (by omega)).trans hat.2.2.2.1
      have f3 := own1.frozenAt (k * 6 + 3)
      have e4 := (own1.cellAt (k * 6 + 4) (by omega)).trans hat.2.2.2.2.1
      have f4 := own1.frozenAt (k * 6 + 4)
      have e5 := (own1.cellAt (k * 6 + 5) (by omega)).trans hat.2.2.2.2.2
      have f5 := own1.frozenAt (k * 6 + 5)
      have st0 := (own1.stored (k * 6) (.int .i64 (eT l k))).1
      have st1 := (st0.stored (k * 6 + 1) (.int .i64 (eC l k))).1
      have st2 := (st1.stored (k * 6 + 2) (.int .i64 (eS l k))).1
      have st3 := (st2.stored (k * 6 + 3) (.int .i64 (eO l k))).1
      have st4 := (st3.stored (k * 6 + 4) (.int .i64 (eK l k))).1
      have st5 := (st4.stored (k * 6 + 5) (.int .i64 (eV l k))).1
      rw [flatE_set _ _ _ _ _ _ _ k (by omega), filledE_step l k hlt] at st5
      have hb2 : Below w.heap.size w w1 := hb.trans (hb1.mono hb.size)
      generalize eT (filledE l k) k = x0 at *
      generalize eC (filledE l k) k = x1 at *
      generalize eS (filledE l k) k = x2 at *
      generalize eO (filledE l k) k = x3 at *
      generalize eK (filledE l k) k = x4 at *
      generalize eV (filledE l k) k = x5 at *
      have ST : Hid _ := st5
      clear st0 st1 st2 st3 st4 st5 hown hb1 d0 d1 d2 d3 d4 d5 own1 hat hfl hr
      go_wp2
      go_roundw
      case rel => exact ⟨k + 1, by omega, by go_num, ST.out, ((((((hb2.setCell (Nat.le_refl _) _).setCell (Nat.le_refl _) _).setCell (Nat.le_refl _) _).setCell (Nat.le_refl _) _).setCell (Nat.le_refl _) _).setCell (Nat.le_refl _) _)⟩
      case measure => simp [intOf]; omega
    · go_wp2
      go_ret
      have hkk : k = l.length := by omega
      subst hkk
      rw [filledE_full] at hown
      exact ⟨_, rfl, hown, hb⟩

end Go.Proofs.Yteegcblndbljlaa
