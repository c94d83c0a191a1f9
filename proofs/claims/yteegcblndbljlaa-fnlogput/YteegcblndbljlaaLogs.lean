/-
  Logs in memory: the laws' own functions on them (szLog, toLog, eqLog).
-/
import Derived.Test.YteegcblndbljlaaEntsTo
namespace Go.Proofs.Yteegcblndbljlaa
open Go.RowKit

/-- the value of a log -/
abbrev lgV (b t : Int) (v : Value) : Value := .agg #[.int .i64 b, .int .i64 t, v]

set_option maxHeartbeats 1000000 in
theorem szLog_any (b t : Int) (v : Value) (l : EL) (left : Int) (w : World) (h : Row w v l.length (flatE l)) (h0 : 0 ≤ left) (h1 : left ≤ 1048576) :
    Calls Try.prog 34 #[lgV b t v, .int .i64 left] w fun e w' => e = .returned (.int .i64 (if (l.length : Int) ≤ left then left - l.length else -1)) ∧ Below w.heap.size w w' := by
  obtain ⟨a, bb, off, cap, rfl, hcap, hmax, -⟩ := h.ents
  have B1 : Hid (Below w.heap.size w (w.alloc (.cells #[.int .i64 b, .int .i64 t, .slice a l.length cap] 51))) := bel_nw _ _
  have hn : l.length ≤ maxLen := by omega
  clear h hmax hcap
  generalize l.length = n at *
  by_cases hd : (n : Int) ≤ left
  · have hn2 : ¬ (left - (n : Int) < 0) := by omega
    have E : Hid ((if (n : Int) ≤ left then left - n else -1) = left - n) := if_pos hd
    go_enter Try.func34, Try.ntmps34
    go_wp2_with fail
    refine Calls.mono (szEntryS_any a n cap left hn h0 h1 _) ?_
    rintro e w2 ⟨rfl, rfl⟩
    rw [E.out]
    go_wp2
    go_ret
    exact ⟨rfl, B1.out⟩
  · have E : Hid ((if (n : Int) ≤ left then left - n else -1) = -1) := if_neg hd
    go_enter Try.func34, Try.ntmps34
    go_wp2_with fail
    refine Calls.mono (szEntryS_any a n cap left hn h0 h1 _) ?_
    rintro e w2 ⟨rfl, rfl⟩
    rw [E.out]
    go_wp2
    go_ret
    exact ⟨rfl, B1.out⟩

set_option maxHeartbeats 1000000 in
theorem eqLog_any (b t b2 t2 : Int) (v v2 : Value) (l l2 : EL) (w : World) (h : Row w v l.length (flatE l)) (h2 : Row w v2 l2.length (flatE l2)) :
    Calls Try.prog 36 #[lgV b t v, lgV b2 t2 v2] w fun e w' => e = .returned (.bool (decide (b = b2 ∧ t = t2 ∧ l = l2))) ∧ Below w.heap.size w w' := by
  have H : Hid _ := And.intro h h2
  have N1 : Hid (MBox 26 ((w.alloc (.cells #[.int .i64 b, .int .i64 t, v] 26)).alloc (.cells #[.int .i64 b2, .int .i64 t2, v2] 26)) w.heap.size #[.int .i64 b, .int .i64 t, v]) := (MBox.start _ _ _).step (bel_nw _ _)
  have N2 : Hid (MBox 26 ((w.alloc (.cells #[.int .i64 b, .int .i64 t, v] 26)).alloc (.cells #[.int .i64 b2, .int .i64 t2, v2] 26)) (w.alloc (.cells #[.int .i64 b, .int .i64 t, v] 26)).heap.size #[.int .i64 b2, .int .i64 t2, v2]) := MBox.start _ _ _
  have B2 : Hid (Below w.heap.size w ((w.alloc (.cells #[.int .i64 b, .int .i64 t, v] 26)).alloc (.cells #[.int .i64 b2, .int .i64 t2, v2] 26))) := Below.and (bel_nw _ _) (bel_nw _ _)
  have e1 : (w.alloc (.cells #[.int .i64 b, .int .i64 t, v] 26)).heap.size = w.heap.size + 1 := by simp
  rw [e1] at N2
  have c1 := N1.out.cells
  have d1 := N2.out.cells
  clear h h2 e1
  by_cases hb : b = b2
  · by_cases ht : t = t2
    · subst hb ht
      have E : Hid (decide (b = b ∧ t = t ∧ l = l2) = decide (l = l2)) := by show _ = _; simp
      go_enter Try.func36, Try.ntmps36
      go_wp2_with fail
      generalize (w.alloc (.cells #[.int .i64 b, .int .i64 t, v] 26)).alloc (.cells #[.int .i64 b, .int .i64 t, v2] 26) = W at *
      refine Calls.mono (eqEntryS_any v v2 l l2 W (H.out.1.below B2.out) (H.out.2.below B2.out)) ?_
      rintro e w2 ⟨rfl, b2⟩
      have B3 : Hid (Below w.heap.size w w2) := Below.and B2.out b2
      clear b2
      generalize hq : decide (l = l2) = q
      cases q
      · have HQ : Hid (decide (l = l2) = false) := hq
        clear hq
        go_wp2
        go_ret
        exact ⟨ret_bool (E.out.trans HQ.out).symm, B3.out⟩
      · have HQ : Hid (decide (l = l2) = true) := hq
        clear hq
        go_wp2
        go_ret
        exact ⟨ret_bool (E.out.trans HQ.out).symm, B3.out⟩
    · have hs' : (t != t2) = true := by simpa using ht
      have E : Hid (decide (b = b2 ∧ t = t2 ∧ l = l2) = false) := by show _ = _; simp [ht]
      subst hb
      go_enter Try.func36, Try.ntmps36
      go_wp2_with fail
      go_ret
      exact ⟨ret_bool (by first | exact E.out.symm | rfl), B2.out⟩
  · have hs' : (b != b2) = true := by simpa using hb
    have E : Hid (decide (b = b2 ∧ t = t2 ∧ l = l2) = false) := by show _ = _; simp [hb]
    go_enter Try.func36, Try.ntmps36
    go_wp2_with fail
    go_ret
    exact ⟨ret_bool (by first | exact E.out.symm | rfl), B2.out⟩

theorem lg_last {W : World} {R : Nat} {t : TypeId} {x0 x1 x2 : Value} (c : Value) (h : W.heap[R]? = some (.cells #[x0, x1, x2] t (0, 0))) : (W.setCell ⟨R, 2, none⟩ c).heap[R]? = some (.cells #[x0, x1, c] t (0, 0)) := by
  have h2 := heap_setCell_same _ R 2 _ _ c h
  simpa using h2
theorem lg_all {W : World} {R : Nat} {t : TypeId} {x0 x1 x2 : Value} (a b c : Value) (h : W.heap[R]? = some (.cells #[x0, x1, x2] t (0, 0))) : (((W.setCell ⟨R, 0, none⟩ a).setCell ⟨R, 1, none⟩ b).setCell ⟨R, 2, none⟩ c).heap[R]? = some (.cells #[a, b, c] t (0, 0)) := by
  have h0 := heap_setCell_same _ R 0 _ _ a h
  have h1 := heap_setCell_same _ R 1 _ _ b h0
  have h2 := heap_setCell_same _ R 2 _ _ c h1
  simpa using h2
theorem lg_last_chg (W : World) (R : Nat) (c : Value) : Chg (fun g => g = R) W (W.setCell ⟨R, 2, none⟩ c) := (Chg.refl (fun g => g = R) W).setAt R 2 rfl c
theorem lg_all_chg (W : World) (R : Nat) (a b c : Value) : Chg (fun g => g = R) W (((W.setCell ⟨R, 0, none⟩ a).setCell ⟨R, 1, none⟩ b).setCell ⟨R, 2, none⟩ c) :=
  (((Chg.refl (fun g => g = R) W).setAt R 0 rfl a).setAt R 1 rfl b).setAt R 2 rfl c

set_option maxHeartbeats 2000000 in
theorem toLog_any (b t : Int) (v : Value) (l : EL) (w : World) (h : Row w v l.length (flatE l)) (hl : l.length ≤ 1048576) :
    Calls Try.prog 35 #[lgV b t v] w fun e w' => ∃ v' : Value, e = .returned (lgV b t v') ∧ w'.ownsRow w.heap.size 39 6 v' l.length (flatE l) ∧ Below w.heap.size w w' := by
  have b0 : Below w.heap.size w (((w.alloc (.cells #[.int .i64 b, .int .i64 t, v] 51)).alloc (.cells #[.int .i64 0, .int .i64 0, .slice none 0 0] 26)).alloc (.cells #[.int .i64 b, .int .i64 t, .slice none 0 0] 26)) := (((Below.refl _ _).alloc (Nat.le_refl _) _).alloc (by simp) _).alloc (by simp; omega) _
  have n1 := MBox.step (MBox.start 26 (w.alloc (.cells #[.int .i64 b, .int .i64 t, v] 51)) #[.int .i64 0, .int .i64 0, .slice none 0 0]) (bel_nw _ (.cells #[.int .i64 b, .int .i64 t, .slice none 0 0] 26))
  have n2 := MBox.start 26 ((w.alloc (.cells #[.int .i64 b, .int .i64 t, v] 51)).alloc (.cells #[.int .i64 0, .int .i64 0, .slice none 0 0] 26)) #[.int .i64 b, .int .i64 t, .slice none 0 0]
  simp only [World.size_alloc] at n1 n2
  have zz : (((w.alloc (.cells #[.int .i64 b, .int .i64 t, v] 51)).alloc (.cells #[.int .i64 0, .int .i64 0, .slice none 0 0] 26)).alloc (.cells #[.int .i64 b, .int .i64 t, .slice none 0 0] 26)).heap.size = w.heap.size + 3 := by simp
  have H : Hid _ := And.intro h (And.intro b0 (And.intro n1 (And.intro n2 zz)))
  clear h b0 n1 n2 zz
  go_enter Try.func35, Try.ntmps35
  go_wp2_with fail
  generalize (((w.alloc (.cells #[.int .i64 b, .int .i64 t, v] 51)).alloc (.cells #[.int .i64 0, .int .i64 0, .slice none 0 0] 26)).alloc (.cells #[.int .i64 b, .int .i64 t, .slice none 0 0] 26)) = W at *
  obtain ⟨h, b0, n1, n2, zz⟩ := H.out
  clear H
  refine (toEntryS_any v l W (h.below b0) hl).mono ?_
  rintro e w3 ⟨v3, rfl, o3, b3⟩
  obtain ⟨a5, q5, hv3⟩ := owns_val o3
  subst hv3
  generalize hm5 : l.length = m5 at *
  have s1 := (b3.block _ (Array.getElem?_eq_some_iff.1 n1).1).trans n1
  have s2 := (b3.block _ (Array.getElem?_eq_some_iff.1 n2).1).trans n2
  have B3 := Below.and b0 b3
  have u2 := lg_last (.slice a5 m5 q5) s2
  have g3 := lg_last_chg w3 (w.heap.size + 1 + 1) (.slice a5 m5 q5)
  have u1 := row_chg s1 g3 (by omega)
  have o4 := owns_chg o3 g3 (fun g hg e => by have := (o3.lt g hg).1; omega)
  have B4 := B3.trans (g3.below (fun g _ hg => by omega) B3.size)
  have x1 := lg_all (.int .i64 b) (.int .i64 t) (.slice a5 m5 q5) u1
  have g5 := lg_all_chg (w3.setCell ⟨w.heap.size + 1 + 1, 2, none⟩ (.slice a5 m5 q5)) (w.heap.size + 1) (.int .i64 b) (.int .i64 t) (.slice a5 m5 q5)
  have o5 := owns_chg o4 g5 (fun g hg e => by have := (o4.lt g hg).1; omega)
  have B5 := B4.trans (g5.below (fun g _ hg => by omega) B4.size)
  have f2 : ∀ j, w3.frozen? ⟨w.heap.size + 1 + 1, j, none⟩ = false := fun j => frozen_of_cells s2
  have f3 : ∀ j, (w3.setCell ⟨w.heap.size + 1 + 1, 2, none⟩ (.slice a5 m5 q5)).frozen? ⟨w.heap.size + 1, j, none⟩ = false := fun j => frozen_of_cells u1
  have c2 : ∀ j, w3.cell? ⟨w.heap.size + 1 + 1, j, none⟩ = (#[.int .i64 b, .int .i64 t, .slice none 0 0] : Array Value)[j]? := fun j => cell_of_cells s2
  have c3 : ∀ j, (w3.setCell ⟨w.heap.size + 1 + 1, 2, none⟩ (.slice a5 m5 q5)).cell? ⟨w.heap.size + 1 + 1, j, none⟩ = (#[.int .i64 b, .int .i64 t, .slice a5 m5 q5] : Array Value)[j]? := fun j => cell_of_cells u2
  have c4 : ∀ j, (w3.setCell ⟨w.heap.size + 1 + 1, 2, none⟩ (.slice a5 m5 q5)).cell? ⟨w.heap.size + 1, j, none⟩ = (#[.int .i64 0, .int .i64 0, .slice none 0 0] : Array Value)[j]? := fun j => cell_of_cells u1
  have X1 : Hid _ := x1
  have K : Hid _ := And.intro (owns_mono (base' := w.heap.size) o5 (by omega)) B5
  clear s1 s2 B3 u2 g3 u1 o4 B4 x1 g5 o5 B5 o3 b3 n1 n2 b0 h zz
  go_wp2_with fail
  simp [bodyPost, results, Try.results35, go_sem, cell_of_cells X1.out]
  rw [hm5]
  exact K.out

end Go.Proofs.Yteegcblndbljlaa
