/-
  The model's cursor over bytes: one number.
-/
import Derived.Test.YtfedeljadckjiaaDoorLeaf
import Derived.Test.YtfedeljadckjiaaDoorSGetNum
import Derived.Deep.DeepCutAuto
namespace Go.Proofs.YtfedeljadckjiaaDoor
open Go.RowKit

/-- the cursor: its bytes, its place, whether all was well -/
def CurAt (w : World) (C : Nat) (v : Value) (at_ : Int) (ok : Bool) : Prop := w.heap[C]? = some (.cells #[v, .int .i64 at_, .bool ok] 80 (0, 0))
theorem CurAt.cell {w : World} {C : Nat} {v : Value} {at_ : Int} {ok : Bool} (h : CurAt w C v at_ ok) : w.cell? ⟨C, 0, none⟩ = some v ∧ w.cell? ⟨C, 1, none⟩ = some (.int .i64 at_) ∧ w.cell? ⟨C, 2, none⟩ = some (.bool ok) := by
  refine ⟨?_, ?_, ?_⟩ <;> (rw [cell_of_cells h]; rfl)
theorem CurAt.live {w : World} {C : Nat} {v : Value} {at_ : Int} {ok : Bool} (h : CurAt w C v at_ ok) (j : Nat) : w.frozen? ⟨C, j, none⟩ = false := frozen_of_cells h
theorem CurAt.below {w w' : World} {C : Nat} {v : Value} {at_ : Int} {ok : Bool} (h : CurAt w C v at_ ok) (hb : Below w.heap.size w w') : CurAt w' C v at_ ok := row_chg h (Chg.of_below (F := fun _ => False) hb) id
theorem CurAt.chg {F : Nat → Prop} {w w' : World} {C : Nat} {v : Value} {at_ : Int} {ok : Bool} (h : CurAt w C v at_ ok) (hc : Chg F w w') (hF : ¬ F C) : CurAt w' C v at_ ok := row_chg h hc hF
theorem CurAt.setOk {w : World} {C : Nat} {v : Value} {at_ : Int} {ok : Bool} (h : CurAt w C v at_ ok) (z : Bool) : CurAt (w.setCell ⟨C, 2, none⟩ (.bool z)) C v at_ z := heap_setCell_same w C 2 _ _ _ h
theorem CurAt.setAt {w : World} {C : Nat} {v : Value} {at_ : Int} {ok : Bool} (h : CurAt w C v at_ ok) (p : Int) : CurAt (w.setCell ⟨C, 1, none⟩ (.int .i64 p)) C v p ok := heap_setCell_same w C 1 _ _ _ h
/-- a number, the place behind it, whether all was well -/
def curN (bs : List Int) (at_ : Int) (ok : Bool) : Int × Int × Bool := match getN bs at_, ok with
  | some (x, p), true => (x, p, true)
  | _, _ => (0, at_, false)

set_option maxRecDepth 100000 in
set_option maxHeartbeats 1000000 in
theorem l5Num_any (v : Value) (bs : List Int) (C : Nat) (at_ : Int) (ok : Bool) (w : World) (hr : Row w v bs.length (flatB bs)) (hbs : inByte bs) (hn : bs.length ≤ 1099511627776) (h : CurAt w C v at_ ok) :
    Calls Tryd.prog 50 #[.pointer (some ⟨C, 0, none⟩)] w fun e w' => e = .returned (.int .i64 (curN bs at_ ok).1) ∧ CurAt w' C v (curN bs at_ ok).2.1 (curN bs at_ ok).2.2 ∧ Chg (fun g => g = C) w w' := by
  obtain ⟨av, bv, ov, cv, hv, _⟩ := id hr
  have hnot : ∀ (x : Bool) (w : World), (Op.unary .not (.bool x)).run Tryd.prog w = .ok (.bool (!x)) w := fun _ _ => rfl
  have GN : Hid (∀ u, Below w.heap.size w u → Calls Tryd.prog 24 #[v, .int .i64 at_] u fun e w' => e = .returned (gotN (getN bs at_)) ∧ Below u.heap.size u w') := fun u hu => specGetNum_any v bs at_ u (hr.below hu) hbs hn
  subst hv
  have H : Hid (CurAt w C (.slice av bs.length cv) at_ ok) := h
  obtain ⟨c0, c1, c2⟩ := h.cell
  clear hr h
  go_enter Tryd.func50, Tryd.ntmps50
  go_upto_region 1 with fail
  go_cut [3, 4, 5] (fun s3 s4 s5 wx => Value.tuple #[s3, s4, s5] = gotN (getN bs at_) ∧ Hid (Below w.heap.size w wx))
  case first =>
    refine wp_region_held_drew (S := fun u => u.cell? ⟨C, 0, none⟩ = some (.slice av bs.length cv) ∧ u.cell? ⟨C, 1, none⟩ = some (.int .i64 at_)) (by kernel_rfl) ⟨c0, c1⟩ ?_
    intro hS
    have BD : Hid (Below w.heap.size w w.drew) := (Below.refl _ _).drew
    generalize w.drew = wd at *
    refine wpAnyH_take (i := 0) (oi := ⟨_, _, _, _, _, _⟩) (v := ?_) rfl (by kernel_rfl) (by kernel_rfl) (by kernel_rfl) (fun _ _ _ h => h) (Or.inl ⟨by rfl, ?_⟩) (by assumption) ?_
    rotate_left
    · ((intro w hSw; (try dsimp only at hSw); go_simp); (try with_reducible rfl))
    try simp only [Act.put, List.setIfInBounds_toArray, List.set_cons_zero, List.set_cons_succ]
    refine wpAnyH_take (i := 1) (oi := ⟨_, _, _, _, _, _⟩) (v := ?_) rfl (by kernel_rfl) (by kernel_rfl) (by kernel_rfl) (fun _ _ _ h => h) (Or.inl ⟨by rfl, ?_⟩) (by assumption) ?_
    rotate_left
    · ((intro w hSw; (try dsimp only at hSw); go_simp); (try with_reducible rfl))
    try simp only [Act.put, List.setIfInBounds_toArray, List.set_cons_zero, List.set_cons_succ]
    refine wpAnyH_take (i := 2) (oi := ⟨_, _, _, _, _, _⟩) (v := ?_) rfl (by kernel_rfl) (by kernel_rfl) (by kernel_rfl) (fun _ _ _ h => h) (Or.inl ⟨by rfl, ?_⟩) (by assumption) ?_
    rotate_left
    · ((intro w hSw; (try dsimp only at hSw); go_simp); (try with_reducible rfl))
    try simp only [Act.put, List.setIfInBounds_toArray, List.set_cons_zero, List.set_cons_succ]
    refine wpAnyH_take (i := 3) (oi := ⟨_, _, _, _, _, _⟩) (v := ?_) rfl (by kernel_rfl) (by kernel_rfl) (by kernel_rfl) (fun _ _ _ h => h) (Or.inl ⟨by rfl, ?_⟩) (by assumption) ?_
    rotate_left
    · ((intro w hSw; (try dsimp only at hSw); go_simp); (try with_reducible rfl))
    try simp only [Act.put, List.setIfInBounds_toArray, List.set_cons_zero, List.set_cons_succ]
    refine wpAnyH_take (i := 4) (oi := ⟨_, _, _, _, _, _⟩) (v := ?_) rfl (by kernel_rfl) (by kernel_rfl) (by kernel_rfl) (fun _ _ _ h => h) (Or.inl ⟨by rfl, ?_⟩) (by assumption) ?_
    rotate_left
    · ((intro w hSw; (try dsimp only at hSw); go_simp); (try with_reducible rfl))
    try simp only [Act.put, List.setIfInBounds_toArray, List.set_cons_zero, List.set_cons_succ]
    refine wpAnyH_take (i := 5) (oi := ⟨_, _, _, _, _, _⟩) (v := ?_) rfl (by kernel_rfl) (by kernel_rfl) (by kernel_rfl) (fun _ _ _ h => h) (Or.inl ⟨by rfl, ?_⟩) (by assumption) ?_
    rotate_left
    · ((intro w hSw; (try dsimp only at hSw); go_simp); (try with_reducible rfl))
    try simp only [Act.put, List.setIfInBounds_toArray, List.set_cons_zero, List.set_cons_succ]
    refine wpAnyH_take (i := 6) (oi := ⟨_, _, _, _, _, _⟩) (v := ?_) rfl (by kernel_rfl) (by kernel_rfl) (by kernel_rfl) (fun _ _ _ h => h) (Or.inl ⟨by rfl, ?_⟩) (by assumption) ?_
    rotate_left
    · ((intro w hSw; (try dsimp only at hSw); go_simp); (try with_reducible rfl))
    try simp only [Act.put, List.setIfInBounds_toArray, List.set_cons_zero, List.set_cons_succ]
    refine wpAnyH_take (i := 7) (oi := ⟨_, _, _, _, _, _⟩) (v := ?_) rfl (by kernel_rfl) (by kernel_rfl) (by kernel_rfl) (fun _ _ _ h => h) (Or.inl ⟨by rfl, ?_⟩) (by assumption) ?_
    rotate_left
    · ((intro w hSw; (try dsimp only at hSw); go_simp); (try with_reducible rfl))
    try simp only [Act.put, List.setIfInBounds_toArray, List.set_cons_zero, List.set_cons_succ]
    refine wpAnyH_ready (rs := [8]) (by kernel_rfl) (by simp) ?_
    refine AllReadyH.cons (o := ⟨_, _, _, _, _, _⟩) rfl (fun K hK => ?_) AllReadyH.nil
    go_simp
    refine Calls.mono (GN.out _ BD.out) ?_
    rintro e w2 ⟨rfl, b2⟩
    have S2 : w2.cell? ⟨C, 0, none⟩ = some (.slice av bs.length cv) ∧ w2.cell? ⟨C, 1, none⟩ = some (.int .i64 at_) := ⟨cell_lowB b2 (cell_lt hS.1) hS.1, cell_lowB b2 (cell_lt hS.2) hS.2⟩
    have B2 : Hid (Below w.heap.size w w2) := BD.out.trans (b2.mono BD.out.size)
    have ht : ∃ y0 y1 y2, gotN (getN bs at_) = .tuple #[y0, y1, y2] := by
      cases getN bs at_ with
      | none => exact ⟨_, _, _, rfl⟩
      | some xp => exact ⟨_, _, _, rfl⟩
    obtain ⟨y0, y1, y2, hy⟩ := ht
    have HY : Hid _ := hy
    rw [hy]
    clear hy b2
    refine hK.out _ _ S2 (fun _ => ?_)
    clear hK K
    try simp only [Act.put, List.setIfInBounds_toArray, List.set_cons_zero, List.set_cons_succ]
    refine wpAnyH_take (i := 9) (oi := ⟨_, _, _, _, _, _⟩) (v := ?_) rfl (by kernel_rfl) (by kernel_rfl) (by kernel_rfl) (fun _ _ _ h => h) (Or.inl ⟨by rfl, ?_⟩) (by assumption) ?_
    rotate_left
    · ((intro w hSw; (try dsimp only at hSw); go_simp); (try with_reducible rfl))
    try simp only [Act.put, List.setIfInBounds_toArray, List.set_cons_zero, List.set_cons_succ]
    refine wpAnyH_take (i := 10) (oi := ⟨_, _, _, _, _, _⟩) (v := ?_) rfl (by kernel_rfl) (by kernel_rfl) (by kernel_rfl) (fun _ _ _ h => h) (Or.inl ⟨by rfl, ?_⟩) (by assumption) ?_
    rotate_left
    · ((intro w hSw; (try dsimp only at hSw); go_simp); (try with_reducible rfl))
    try simp only [Act.put, List.setIfInBounds_toArray, List.set_cons_zero, List.set_cons_succ]
    refine wpAnyH_take (i := 11) (oi := ⟨_, _, _, _, _, _⟩) (v := ?_) rfl (by kernel_rfl) (by kernel_rfl) (by kernel_rfl) (fun _ _ _ h => h) (Or.inl ⟨by rfl, ?_⟩) (by assumption) ?_
    rotate_left
    · ((intro w hSw; (try dsimp only at hSw); go_simp); (try with_reducible rfl))
    try simp only [Act.put, List.setIfInBounds_toArray, List.set_cons_zero, List.set_cons_succ]
    refine wpAnyH_take (i := 12) (oi := ⟨_, _, _, _, _, _⟩) (v := ?_) rfl (by kernel_rfl) (by kernel_rfl) (by kernel_rfl) (fun _ _ _ h => h) (Or.inl ⟨by rfl, ?_⟩) (by assumption) ?_
    rotate_left
    · ((intro w hSw; (try dsimp only at hSw); go_simp); (try with_reducible rfl))
    try simp only [Act.put, List.setIfInBounds_toArray, List.set_cons_zero, List.set_cons_succ]
    refine wpAnyH_take (i := 13) (oi := ⟨_, _, _, _, _, _⟩) (v := ?_) rfl (by kernel_rfl) (by kernel_rfl) (by kernel_rfl) (fun _ _ _ h => h) (Or.inl ⟨by rfl, ?_⟩) (by assumption) ?_
    rotate_left
    · ((intro w hSw; (try dsimp only at hSw); go_simp); (try with_reducible rfl))
    try simp only [Act.put, List.setIfInBounds_toArray, List.set_cons_zero, List.set_cons_succ]
    refine wpAnyH_take (i := 14) (oi := ⟨_, _, _, _, _, _⟩) (v := ?_) rfl (by kernel_rfl) (by kernel_rfl) (by kernel_rfl) (fun _ _ _ h => h) (Or.inl ⟨by rfl, ?_⟩) (by assumption) ?_
    rotate_left
    · ((intro w hSw; (try dsimp only at hSw); go_simp); (try with_reducible rfl))
    try simp only [Act.put, List.setIfInBounds_toArray, List.set_cons_zero, List.set_cons_succ]
    refine wpAnyH_take (i := 15) (oi := ⟨_, _, _, _, _, _⟩) (v := ?_) rfl (by kernel_rfl) (by kernel_rfl) (by kernel_rfl) (fun _ _ _ h => h) (Or.inl ⟨by rfl, ?_⟩) (by assumption) ?_
    rotate_left
    · ((intro w hSw; (try dsimp only at hSw); go_simp); (try with_reducible rfl))
    try simp only [Act.put, List.setIfInBounds_toArray, List.set_cons_zero, List.set_cons_succ]
    refine wpAnyH_done (by kernel_rfl) ?_ _
    go_wp2_with fail
    go_meet
    case rel => exact ⟨HY.out.symm, B2⟩
  case rest =>
  obtain ⟨hy, B2⟩ := hcut
  have h2 : CurAt wc C (.slice av bs.length cv) at_ ok := H.out.chg (Chg.of_below (F := fun _ => False) B2.out) id
  have CW : Chg (fun g => g = C) w wc := Chg.of_below B2.out
  obtain ⟨d0, d1, d2⟩ := h2.cell
  have f2 := h2.live
  have I : Hid _ := And.intro h2 CW
  clear h2 CW c0 c1 c2
  cases hg : getN bs at_ with
  | none =>
    rw [hg] at hy
    simp only [gotN, Value.tuple.injEq, Array.mk.injEq, List.cons.injEq, and_true] at hy
    obtain ⟨rfl, rfl, rfl⟩ := hy
    have G : Hid (curN bs at_ ok = (0, at_, false)) := by show _ = _; unfold curN; rw [hg]
    clear hg
    go_wp2
    rw [G.out]
    go_ret
    exact ⟨rfl, I.out.1.setOk false, I.out.2.setAt C 2 rfl _⟩
  | some xp =>
    obtain ⟨x, p⟩ := xp
    rw [hg] at hy
    simp only [gotN, Value.tuple.injEq, Array.mk.injEq, List.cons.injEq, and_true] at hy
    obtain ⟨rfl, rfl, rfl⟩ := hy
    cases ok with
    | false =>
      have G : Hid (curN bs at_ false = (0, at_, false)) := by show _ = _; unfold curN; rw [hg]
      clear hg
      go_wp2
      rw [G.out]
      go_ret
      exact ⟨rfl, I.out.1.setOk false, I.out.2.setAt C 2 rfl _⟩
    | true =>
      have G : Hid (curN bs at_ true = (x, p, true)) := by show _ = _; unfold curN; rw [hg]
      clear hg
      go_wp2
      rw [G.out]
      go_ret
      exact ⟨rfl, I.out.1.setAt p, I.out.2.setAt C 1 rfl _⟩

end Go.Proofs.YtfedeljadckjiaaDoor
