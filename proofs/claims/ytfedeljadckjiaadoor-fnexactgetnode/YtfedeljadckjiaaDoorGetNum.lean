/-
  The program's GetNum: a mistake is a panic that it recovers.
-/
import Derived.Test.YtfedeljadckjiaaDoorNum
import Derived.Test.YtfedeljadckjiaaDoorSGetNum
import Derived.Laws.Pointers
namespace Go.Proofs.YtfedeljadckjiaaDoor
open Go.RowKit

/-- one cell of a variable -/
def VarIs (w : World) (B : Nat) (v : Value) (t : TypeId) : Prop := w.heap[B]? = some (.cells #[v] t (0, 0))
theorem VarIs.cell {w : World} {B : Nat} {v : Value} {t : TypeId} (h : VarIs w B v t) : w.cell? ⟨B, 0, none⟩ = some v := by rw [cell_of_cells h]; rfl
theorem VarIs.live {w : World} {B : Nat} {v : Value} {t : TypeId} (h : VarIs w B v t) : w.frozen? ⟨B, 0, none⟩ = false := frozen_of_cells h
theorem VarIs.chg {F : Nat → Prop} {w w' : World} {B : Nat} {v : Value} {t : TypeId} (h : VarIs w B v t) (hc : Chg F w w') (hF : ¬ F B) : VarIs w' B v t := row_chg h hc hF
theorem VarIs.set {w : World} {B : Nat} {v : Value} {t : TypeId} (h : VarIs w B v t) (u : Value) : VarIs (w.setCell ⟨B, 0, none⟩ u) B u t := heap_setCell_same w B 0 _ _ _ h
theorem VarIs.setOther {w : World} {B C : Nat} {v : Value} {t : TypeId} (h : VarIs w B v t) (u : Value) (hne : C ≠ B) : VarIs (w.setCell ⟨C, 0, none⟩ u) B v t := by
  unfold VarIs at *
  rw [heap_setCell_other _ _ _ _ (fun e => hne (by simpa using e.symm))]; exact h

theorem getNum_catch (a b c : Nat) (x y : Int) (z : Bool) (ea : Addr) (w : World) (ha : VarIs w a (.int .i64 x) 3) (hb : VarIs w b (.int .i64 y) 3) (hc : VarIs w c (.bool z) 4) (hab : a ≠ b) (hac : a ≠ c) (hbc : b ≠ c) :
    CallsD Tryd.prog 53 #[.pointer (some ⟨a, 0, none⟩), .pointer (some ⟨b, 0, none⟩), .pointer (some ⟨c, 0, none⟩)] (.panicking (boom ea)) w fun e u' w' =>
      e = .returned (.tuple #[]) ∧ u' = .panicking [{ v := ErrV ea, recovered := true }] ∧ VarIs w' a (.int .i64 0) 3 ∧ VarIs w' b (.int .i64 0) 3 ∧ VarIs w' c (.bool false) 4 ∧ Chg (fun g => g = a ∨ g = b ∨ g = c) w w' := by
  have e1 := ha.cell
  have f1 := ha.live
  have hb1 := hb.setOther (.int .i64 0) hab
  have e2 := hb1.cell
  have f2 := hb1.live
  have hc2 := (hc.setOther (.int .i64 0) hac).setOther (.int .i64 0) hbc
  have e3 := hc2.cell
  have f3 := hc2.live
  refine callsD_of_wpS Tryd.func53 rfl fun c₀ cs hu => ?_
  unfold boom ErrV at hu
  apply wpS_seq
  apply wpS_region
  simp [wpOpsS, go_sem, recoverD, hu, Tryd.ntmps53, Exit.thenS]
  refine wpS_cond (t := true) (by simp [Act.eval, Array.replicate]) ?_
  simp only [if_true]
  apply wpS_region
  simp [wpOpsS, go_sem, e1, f1, e2, f2, e3, f3, bodyPostS, results, Tryd.results53]
  exact ⟨rfl, ((ha.set _).setOther _ hab.symm).setOther _ hac.symm, (hb1.set _).setOther _ hbc.symm, hc2.set _,
    (((Chg.refl (fun g => g = a ∨ g = b ∨ g = c) w).setAt a 0 (.inl rfl) _).setAt b 0 (.inr (.inl rfl)) _).setAt c 0 (.inr (.inr rfl)) _⟩

theorem getNum_idle (p q r : Value) (w : World) :
    CallsD Tryd.prog 53 #[p, q, r] .returning w fun e u' w' => e = .returned (.tuple #[]) ∧ u' = .returning ∧ w' = w := by
  refine callsD_of_wpS Tryd.func53 rfl fun c₀ cs hu => ?_
  apply wpS_seq
  apply wpS_region
  simp [wpOpsS, go_sem, recoverD, hu, Tryd.ntmps53, Exit.thenS]
  refine wpS_cond (t := false) (by simp [Act.eval, Array.replicate]) ?_
  simp only [Bool.false_eq_true, if_false]
  refine wpS_of_wp (wp_skip ?_)
  cases c₀
  simp_all [bodyPostS, results, Tryd.results53]


set_option maxRecDepth 100000 in
set_option maxHeartbeats 4000000 in
theorem implGetNum_any (ea : Addr) (v : Value) (bs : List Int) (at_ : Int) (w : World) (hr : Row w v bs.length (flatB bs)) (hbs : inByte bs) (he : ErrIs ea w) :
    Calls Tryd.prog 21 #[v, .int .i64 at_] w fun e w' => e = .returned (gotN (getN bs at_)) ∧ Below w.heap.size w w' := by
  have hmf : ∀ (fn : Fn) (first cap : Array Value) (w : World), (Instr.makeFunc fn first cap).run Tryd.prog w = .ok (.func fn first cap) w := fun _ _ _ _ => rfl
  have hv : ∃ a n c, v = .slice a n c := by obtain ⟨a, b, off, cap, rfl, _⟩ := hr; exact ⟨_, _, _, rfl⟩
  obtain ⟨av, nv, cv, rfl⟩ := hv
  have h00 : 0 < w.heap.size := cell_lt he
  have b1 : Below w.heap.size w (w.alloc (.cells #[.int .i64 at_] 3)) := (Below.refl _ _).alloc (Nat.le_refl _) _
  have n1 : PlaceIs (w.alloc (.cells #[.int .i64 at_] 3)) w.heap.size at_ := heap_alloc_new _ _
  generalize hW1 : w.alloc (.cells #[.int .i64 at_] 3) = W1 at b1 n1
  have s1 : W1.heap.size = w.heap.size + 1 := by rw [← hW1]; simp
  have b2 : Below W1.heap.size W1 (W1.alloc (.cells #[.int .i64 0] 3)) := (Below.refl _ _).alloc (Nat.le_refl _) _
  have n2 : VarIs (W1.alloc (.cells #[.int .i64 0] 3)) W1.heap.size (.int .i64 0) 3 := heap_alloc_new _ _
  generalize hW2 : W1.alloc (.cells #[.int .i64 0] 3) = W2 at b2 n2
  have s2 : W2.heap.size = W1.heap.size + 1 := by rw [← hW2]; simp
  have b3 : Below W2.heap.size W2 (W2.alloc (.cells #[.int .i64 0] 3)) := (Below.refl _ _).alloc (Nat.le_refl _) _
  have n3 : VarIs (W2.alloc (.cells #[.int .i64 0] 3)) W2.heap.size (.int .i64 0) 3 := heap_alloc_new _ _
  generalize hW3 : W2.alloc (.cells #[.int .i64 0] 3) = W3 at b3 n3
  have s3 : W3.heap.size = W2.heap.size + 1 := by rw [← hW3]; simp
  have b4 : Below W3.heap.size W3 (W3.alloc (.cells #[.bool false] 4)) := (Below.refl _ _).alloc (Nat.le_refl _) _
  have n4 : VarIs (W3.alloc (.cells #[.bool false] 4)) W3.heap.size (.bool false) 4 := heap_alloc_new _ _
  generalize hW4 : W3.alloc (.cells #[.bool false] 4) = W4 at b4 n4
  have s4 : W4.heap.size = W3.heap.size + 1 := by rw [← hW4]; simp
  have b5 : Below W4.heap.size W4 (W4.alloc (.cells #[.slice av nv cv, .pointer (some ⟨w.heap.size, 0, none⟩)] 69)) := (Below.refl _ _).alloc (Nat.le_refl _) _
  generalize hW5 : W4.alloc (.cells #[.slice av nv cv, .pointer (some ⟨w.heap.size, 0, none⟩)] 69) = W5 at b5
  have E5 : Hid (((((w.alloc (.cells #[.int .i64 at_] 3)).alloc (.cells #[.int .i64 0] 3)).alloc (.cells #[.int .i64 0] 3)).alloc (.cells #[.bool false] 4)).alloc (.cells #[.slice av nv cv, .pointer (some ⟨w.heap.size, 0, none⟩)] 69) = W5) := by
    show _ = _
    rw [hW1, hW2, hW3, hW4, hW5]
  rw [s1] at n2
  rw [s2, s1] at n3
  rw [s3, s2, s1] at n4
  have B5 : Below w.heap.size w W5 := Below.and b1 (Below.and b2 (Below.and b3 (Below.and b4 b5)))
  have R5 := hr.below B5
  have e5 := he.below B5
  have p5 : PlaceIs W5 w.heap.size at_ := n1.below (Below.and b2 (Below.and b3 (Below.and b4 b5)))
  have x5 : VarIs W5 (w.heap.size + 1) (.int .i64 0) 3 := n2.chg (Chg.of_below (F := fun _ => False) (Below.and b3 (Below.and b4 b5))) id
  have y5 : VarIs W5 (w.heap.size + 1 + 1) (.int .i64 0) 3 := n3.chg (Chg.of_below (F := fun _ => False) (Below.and b4 b5)) id
  have z5 : VarIs W5 (w.heap.size + 1 + 1 + 1) (.bool false) 4 := n4.chg (Chg.of_below (F := fun _ => False) b5) id
  have HH : Hid _ := And.intro R5 (And.intro e5 (And.intro p5 (And.intro x5 (And.intro y5 (And.intro z5 B5)))))
  clear b1 n1 hW1 s1 b2 n2 hW2 s2 b3 n3 hW3 s3 b4 n4 hW4 s4 b5 hW5 B5 R5 e5 p5 x5 y5 z5 hr he
  go_enter_defers Tryd.func21, Tryd.ntmps21
  go_wp2_with fail
  rw [E5.out]
  obtain ⟨R5, e5, p5, x5, y5, z5, B5⟩ := HH.out
  refine (num_any ea _ bs w.heap.size at_ W5 R5 hbs p5 e5 (by omega)).mono ?_
  rintro e w1 ⟨hn, hc⟩
  have x1 := x5.chg hc (by show ¬ _ = _; omega)
  have y1 := y5.chg hc (by show ¬ _ = _; omega)
  have z1 := z5.chg hc (by show ¬ _ = _; omega)
  have B1 : Below w.heap.size w w1 := B5.trans (hc.below (fun g _ hg => by omega) B5.size)
  clear R5 e5 p5 x5 y5 z5 B5 hc HH E5
  cases hg : getN bs at_ with
  | none =>
    rw [hg] at hn
    have hn' : e = .panicked (boom ea) := hn
    subst hn'
    clear hn
    have HG : Hid _ := hg
    clear hg
    go_wp2
    refine leaves_cons (f := 53) (args := #[Value.pointer (some ⟨w.heap.size + 1, 0, none⟩), Value.pointer (some ⟨w.heap.size + 1 + 1, 0, none⟩), Value.pointer (some ⟨w.heap.size + 1 + 1 + 1, 0, none⟩)]) (by simp) (by simp [go_sem]) ?_
    refine (getNum_catch _ _ _ 0 0 false ea _ x1 y1 z1 (by omega) (by omega) (by omega)).mono ?_
    rintro e u' w2 ⟨rfl, rfl, x2, y2, z2, ch⟩
    have B2 : Below w.heap.size w w2 := B1.trans (ch.below (fun g _ hg => by omega) B1.size)
    rw [HG.out]
    simp [Leaves, settle, results, Tryd.results21, go_sem, x2.cell, y2.cell, z2.cell, B2, gotN]
  | some xp =>
    obtain ⟨x, p⟩ := xp
    rw [hg] at hn
    obtain ⟨rfl, p1⟩ := hn
    have HG : Hid _ := hg
    clear hg
    have c0 : w1.cell? ⟨w.heap.size, 0, none⟩ = some (.int .i64 p) := by rw [cell_of_cells p1]; rfl
    have c1 := x1.cell
    have c2 := y1.cell
    have c3 := z1.cell
    have f1 := x1.live
    have f2 := y1.live
    have f3 := z1.live
    have K : Hid _ := And.intro x1 (And.intro y1 (And.intro z1 B1))
    clear x1 y1 z1 B1 p1
    go_wp2_with fail
    go_region
    all_goals
      go_wp2
      refine leaves_cons (f := 53) (args := #[Value.pointer (some ⟨w.heap.size + 1, 0, none⟩), Value.pointer (some ⟨w.heap.size + 1 + 1, 0, none⟩), Value.pointer (some ⟨w.heap.size + 1 + 1 + 1, 0, none⟩)]) (by simp) (by simp [go_sem]) ?_
      refine (getNum_idle _ _ _ _).mono ?_
      rintro e u' w2 ⟨rfl, rfl, rfl⟩
      rw [HG.out]
      simp [Leaves, settle, results, Tryd.results21, go_sem, c1, c2, c3, gotN]
      exact ((((K.out.2.2.2.setCell (by simp only; omega) _).setCell (by simp only; omega) _).setCell (by simp only; omega) _).setCell (by simp only; omega) _).drew

end Go.Proofs.YtfedeljadckjiaaDoor
