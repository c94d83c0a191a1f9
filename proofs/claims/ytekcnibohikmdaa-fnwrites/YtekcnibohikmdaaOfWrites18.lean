/-
  The model's cursor over bytes: one number.
  The model's GetNode: its first two numbers.
  The model's GetNode: what it reads of a fork, step by step.
  The model's GetNode: its test.
-/
import Derived.Test.YtekcnibohikmdaaOfWrites16
import Derived.Test.YtekcnibohikmdaaOfWrites15
import Derived.Deep.DeepCutAuto
import Derived.Test.YtekcnibohikmdaaOfWrites17
import Derived.Test.YtekcnibohikmdaaOfWrites9
import Derived.Test.YtekcnibohikmdaaOfWrites10
import Derived.Laws.BytesArg
import Derived.Lib.SlicesS
namespace Go.Proofs.Ytekcnibohikmdaa
set_option maxRecDepth 100000
set_option maxHeartbeats 8000000
section
open Go.RowKit

def CurAt (w : World) (C : Nat) (v : Value) (at_ : Int) (ok : Bool) : Prop := w.heap[C]? = some (.cells #[v, .int .i64 at_, .bool ok] 102 (0, 0))
theorem CurAt.cell {w : World} {C : Nat} {v : Value} {at_ : Int} {ok : Bool} (h : CurAt w C v at_ ok) : w.cell? ⟨C, 0, none⟩ = some v ∧ w.cell? ⟨C, 1, none⟩ = some (.int .i64 at_) ∧ w.cell? ⟨C, 2, none⟩ = some (.bool ok) := by
 refine ⟨?_, ?_, ?_⟩ <;> (rw [cell_of_cells h]; rfl)
theorem CurAt.live {w : World} {C : Nat} {v : Value} {at_ : Int} {ok : Bool} (h : CurAt w C v at_ ok) (j : Nat) : w.frozen? ⟨C, j, none⟩ = false := frozen_of_cells h
theorem CurAt.below {w w' : World} {C : Nat} {v : Value} {at_ : Int} {ok : Bool} (h : CurAt w C v at_ ok) (hb : Below w.heap.size w w') : CurAt w' C v at_ ok := row_chg h (Chg.of_below (F := fun _ => False) hb) id
theorem CurAt.chg {F : Nat → Prop} {w w' : World} {C : Nat} {v : Value} {at_ : Int} {ok : Bool} (h : CurAt w C v at_ ok) (hc : Chg F w w') (hF : ¬ F C) : CurAt w' C v at_ ok := row_chg h hc hF
theorem CurAt.setOk {w : World} {C : Nat} {v : Value} {at_ : Int} {ok : Bool} (h : CurAt w C v at_ ok) (z : Bool) : CurAt (w.setCell ⟨C, 2, none⟩ (.bool z)) C v at_ z := heap_setCell_same w C 2 _ _ _ h
theorem CurAt.setAt {w : World} {C : Nat} {v : Value} {at_ : Int} {ok : Bool} (h : CurAt w C v at_ ok) (p : Int) : CurAt (w.setCell ⟨C, 1, none⟩ (.int .i64 p)) C v p ok := heap_setCell_same w C 1 _ _ _ h
def curN (bs : List Int) (at_ : Int) (ok : Bool) : Int × Int × Bool := match getN bs at_, ok with
 | some (x, p), true => (x, p, true)
 | _, _ => (0, at_, false)

theorem l5Num_any (v : Value) (bs : List Int) (C : Nat) (at_ : Int) (ok : Bool) (w : World) (hr : Row w v bs.length (flatB bs)) (hbs : inByte bs) (hn : bs.length ≤ 1099511627776) (h : CurAt w C v at_ ok) :
  Calls Try.prog 55 #[.pointer (some ⟨C, 0, none⟩)] w fun e w' => e = .returned (.int .i64 (curN bs at_ ok).1) ∧ CurAt w' C v (curN bs at_ ok).2.1 (curN bs at_ ok).2.2 ∧ Chg (fun g => g = C) w w' := by
 obtain ⟨av, bv, ov, cv, hv, _⟩ := id hr
 have hnot : ∀ (x : Bool) (w : World), (Op.unary .not (.bool x)).run Try.prog w = .ok (.bool (!x)) w := fun _ _ => rfl
 have GN : Hid (∀ u, Below w.heap.size w u → Calls Try.prog 66 #[v, .int .i64 at_] u fun e w' => e = .returned (gotN (getN bs at_)) ∧ Below u.heap.size u w') := fun u hu => specGetNum_any v bs at_ u (hr.below hu) hbs hn
 subst hv
 have H : Hid (CurAt w C (.slice av bs.length cv) at_ ok) := h
 obtain ⟨c0, c1, c2⟩ := h.cell
 clear hr h
 go_enter Try.func55, Try.ntmps55
 go_upto_region 1 with fail
 go_cut [3, 4, 5] (fun s3 s4 s5 wx => Value.tuple #[s3, s4, s5] = gotN (getN bs at_) ∧ Hid (Below w.heap.size w wx))
 case first =>
  refine wp_region_held_drew (S := fun u => u.cell? ⟨C, 0, none⟩ = some (.slice av bs.length cv) ∧ u.cell? ⟨C, 1, none⟩ = some (.int .i64 at_)) (by kernel_rfl) ⟨c0, c1⟩ ?_
  intro hS
  have BD : Hid (Below w.heap.size w w.drew) := (Below.refl _ _).drew
  generalize w.drew = wd at *
  refine wpAnyH_take (i := 0) (oi := ⟨_, _, _, _, _, _⟩) (v := ?_) rfl (by kernel_rfl) (by kernel_rfl) (by kernel_rfl) (fun _ _ _ h => h) (Or.inl ⟨by rfl, ?_⟩) (by assumption) ?_
  rotate_left
  ·((intro w hSw; (try dsimp only at hSw); go_simp); (try with_reducible rfl))
  try simp only [Act.put, List.setIfInBounds_toArray, List.set_cons_zero, List.set_cons_succ]
  refine wpAnyH_take (i := 1) (oi := ⟨_, _, _, _, _, _⟩) (v := ?_) rfl (by kernel_rfl) (by kernel_rfl) (by kernel_rfl) (fun _ _ _ h => h) (Or.inl ⟨by rfl, ?_⟩) (by assumption) ?_
  rotate_left
  ·((intro w hSw; (try dsimp only at hSw); go_simp); (try with_reducible rfl))
  try simp only [Act.put, List.setIfInBounds_toArray, List.set_cons_zero, List.set_cons_succ]
  refine wpAnyH_take (i := 2) (oi := ⟨_, _, _, _, _, _⟩) (v := ?_) rfl (by kernel_rfl) (by kernel_rfl) (by kernel_rfl) (fun _ _ _ h => h) (Or.inl ⟨by rfl, ?_⟩) (by assumption) ?_
  rotate_left
  ·((intro w hSw; (try dsimp only at hSw); go_simp); (try with_reducible rfl))
  try simp only [Act.put, List.setIfInBounds_toArray, List.set_cons_zero, List.set_cons_succ]
  refine wpAnyH_take (i := 3) (oi := ⟨_, _, _, _, _, _⟩) (v := ?_) rfl (by kernel_rfl) (by kernel_rfl) (by kernel_rfl) (fun _ _ _ h => h) (Or.inl ⟨by rfl, ?_⟩) (by assumption) ?_
  rotate_left
  ·((intro w hSw; (try dsimp only at hSw); go_simp); (try with_reducible rfl))
  try simp only [Act.put, List.setIfInBounds_toArray, List.set_cons_zero, List.set_cons_succ]
  refine wpAnyH_take (i := 4) (oi := ⟨_, _, _, _, _, _⟩) (v := ?_) rfl (by kernel_rfl) (by kernel_rfl) (by kernel_rfl) (fun _ _ _ h => h) (Or.inl ⟨by rfl, ?_⟩) (by assumption) ?_
  rotate_left
  ·((intro w hSw; (try dsimp only at hSw); go_simp); (try with_reducible rfl))
  try simp only [Act.put, List.setIfInBounds_toArray, List.set_cons_zero, List.set_cons_succ]
  refine wpAnyH_take (i := 5) (oi := ⟨_, _, _, _, _, _⟩) (v := ?_) rfl (by kernel_rfl) (by kernel_rfl) (by kernel_rfl) (fun _ _ _ h => h) (Or.inl ⟨by rfl, ?_⟩) (by assumption) ?_
  rotate_left
  ·((intro w hSw; (try dsimp only at hSw); go_simp); (try with_reducible rfl))
  try simp only [Act.put, List.setIfInBounds_toArray, List.set_cons_zero, List.set_cons_succ]
  refine wpAnyH_take (i := 6) (oi := ⟨_, _, _, _, _, _⟩) (v := ?_) rfl (by kernel_rfl) (by kernel_rfl) (by kernel_rfl) (fun _ _ _ h => h) (Or.inl ⟨by rfl, ?_⟩) (by assumption) ?_
  rotate_left
  ·((intro w hSw; (try dsimp only at hSw); go_simp); (try with_reducible rfl))
  try simp only [Act.put, List.setIfInBounds_toArray, List.set_cons_zero, List.set_cons_succ]
  refine wpAnyH_take (i := 7) (oi := ⟨_, _, _, _, _, _⟩) (v := ?_) rfl (by kernel_rfl) (by kernel_rfl) (by kernel_rfl) (fun _ _ _ h => h) (Or.inl ⟨by rfl, ?_⟩) (by assumption) ?_
  rotate_left
  ·((intro w hSw; (try dsimp only at hSw); go_simp); (try with_reducible rfl))
  try simp only [Act.put, List.setIfInBounds_toArray, List.set_cons_zero, List.set_cons_succ]
  refine wpAnyH_ready (rs := [8]) (by kernel_rfl) (by simp) ?_
  refine AllReadyH.cons (o := ⟨_, _, _, _, _, _⟩) rfl (fun K hK => ?_) AllReadyH.nil
  go_simp
  refine Calls.mono (GN.out _ BD.out) ?_
  rintro e w2 ⟨rfl, b2⟩
  have S2 : w2.cell? ⟨C, 0, none⟩ = some (.slice av bs.length cv) ∧ w2.cell? ⟨C, 1, none⟩ = some (.int .i64 at_) := ⟨cell_lowB b2 (cell_lt hS.1) hS.1, cell_lowB b2 (cell_lt hS.2) hS.2⟩
  have B2 : Hid (Below w.heap.size w w2) := BD.out.trans (b2.mono BD.out.size)
  have ht : ∃ y0 y1 y2, gotN (getN bs at_) = .tuple #[y0, y1, y2] := by
   cases getN bs at_ with
   | none => exact ⟨_, _, _, rfl⟩
   | some xp => exact ⟨_, _, _, rfl⟩
  obtain ⟨y0, y1, y2, hy⟩ := ht
  have HY : Hid _ := hy
  rw [hy]
  clear hy b2
  refine hK.out _ _ S2 (fun _ => ?_)
  clear hK K
  try simp only [Act.put, List.setIfInBounds_toArray, List.set_cons_zero, List.set_cons_succ]
  refine wpAnyH_take (i := 9) (oi := ⟨_, _, _, _, _, _⟩) (v := ?_) rfl (by kernel_rfl) (by kernel_rfl) (by kernel_rfl) (fun _ _ _ h => h) (Or.inl ⟨by rfl, ?_⟩) (by assumption) ?_
  rotate_left
  ·((intro w hSw; (try dsimp only at hSw); go_simp); (try with_reducible rfl))
  try simp only [Act.put, List.setIfInBounds_toArray, List.set_cons_zero, List.set_cons_succ]
  refine wpAnyH_take (i := 10) (oi := ⟨_, _, _, _, _, _⟩) (v := ?_) rfl (by kernel_rfl) (by kernel_rfl) (by kernel_rfl) (fun _ _ _ h => h) (Or.inl ⟨by rfl, ?_⟩) (by assumption) ?_
  rotate_left
  ·((intro w hSw; (try dsimp only at hSw); go_simp); (try with_reducible rfl))
  try simp only [Act.put, List.setIfInBounds_toArray, List.set_cons_zero, List.set_cons_succ]
  refine wpAnyH_take (i := 11) (oi := ⟨_, _, _, _, _, _⟩) (v := ?_) rfl (by kernel_rfl) (by kernel_rfl) (by kernel_rfl) (fun _ _ _ h => h) (Or.inl ⟨by rfl, ?_⟩) (by assumption) ?_
  rotate_left
  ·((intro w hSw; (try dsimp only at hSw); go_simp); (try with_reducible rfl))
  try simp only [Act.put, List.setIfInBounds_toArray, List.set_cons_zero, List.set_cons_succ]
  refine wpAnyH_take (i := 12) (oi := ⟨_, _, _, _, _, _⟩) (v := ?_) rfl (by kernel_rfl) (by kernel_rfl) (by kernel_rfl) (fun _ _ _ h => h) (Or.inl ⟨by rfl, ?_⟩) (by assumption) ?_
  rotate_left
  ·((intro w hSw; (try dsimp only at hSw); go_simp); (try with_reducible rfl))
  try simp only [Act.put, List.setIfInBounds_toArray, List.set_cons_zero, List.set_cons_succ]
  refine wpAnyH_take (i := 13) (oi := ⟨_, _, _, _, _, _⟩) (v := ?_) rfl (by kernel_rfl) (by kernel_rfl) (by kernel_rfl) (fun _ _ _ h => h) (Or.inl ⟨by rfl, ?_⟩) (by assumption) ?_
  rotate_left
  ·((intro w hSw; (try dsimp only at hSw); go_simp); (try with_reducible rfl))
  try simp only [Act.put, List.setIfInBounds_toArray, List.set_cons_zero, List.set_cons_succ]
  refine wpAnyH_take (i := 14) (oi := ⟨_, _, _, _, _, _⟩) (v := ?_) rfl (by kernel_rfl) (by kernel_rfl) (by kernel_rfl) (fun _ _ _ h => h) (Or.inl ⟨by rfl, ?_⟩) (by assumption) ?_
  rotate_left
  ·((intro w hSw; (try dsimp only at hSw); go_simp); (try with_reducible rfl))
  try simp only [Act.put, List.setIfInBounds_toArray, List.set_cons_zero, List.set_cons_succ]
  refine wpAnyH_take (i := 15) (oi := ⟨_, _, _, _, _, _⟩) (v := ?_) rfl (by kernel_rfl) (by kernel_rfl) (by kernel_rfl) (fun _ _ _ h => h) (Or.inl ⟨by rfl, ?_⟩) (by assumption) ?_
  rotate_left
  ·((intro w hSw; (try dsimp only at hSw); go_simp); (try with_reducible rfl))
  try simp only [Act.put, List.setIfInBounds_toArray, List.set_cons_zero, List.set_cons_succ]
  refine wpAnyH_done (by kernel_rfl) ?_ _
  go_wp2_with fail
  go_meet
  case rel => exact ⟨HY.out.symm, B2⟩
 case rest =>
 obtain ⟨hy, B2⟩ := hcut
 have h2 : CurAt wc C (.slice av bs.length cv) at_ ok := H.out.chg (Chg.of_below (F := fun _ => False) B2.out) id
 have CW : Chg (fun g => g = C) w wc := Chg.of_below B2.out
 obtain ⟨d0, d1, d2⟩ := h2.cell
 have f2 := h2.live
 have I : Hid _ := And.intro h2 CW
 clear h2 CW c0 c1 c2
 cases hg : getN bs at_ with
 | none =>
  rw [hg] at hy
  simp only [gotN, Value.tuple.injEq, Array.mk.injEq, List.cons.injEq, and_true] at hy
  obtain ⟨rfl, rfl, rfl⟩ := hy
  have G : Hid (curN bs at_ ok = (0, at_, false)) := by show _ = _; unfold curN; rw [hg]
  clear hg
  go_wp2
  rw [G.out]
  go_ret
  exact ⟨rfl, I.out.1.setOk false, I.out.2.setAt C 2 rfl _⟩
 | some xp =>
  obtain ⟨x, p⟩ := xp
  rw [hg] at hy
  simp only [gotN, Value.tuple.injEq, Array.mk.injEq, List.cons.injEq, and_true] at hy
  obtain ⟨rfl, rfl, rfl⟩ := hy
  cases ok with
  | false =>
   have G : Hid (curN bs at_ false = (0, at_, false)) := by show _ = _; unfold curN; rw [hg]
   clear hg
   go_wp2
   rw [G.out]
   go_ret
   exact ⟨rfl, I.out.1.setOk false, I.out.2.setAt C 2 rfl _⟩
  | true =>
   have G : Hid (curN bs at_ true = (x, p, true)) := by show _ = _; unfold curN; rw [hg]
   clear hg
   go_wp2
   rw [G.out]
   go_ret
   exact ⟨rfl, I.out.1.setAt p, I.out.2.setAt C 1 rfl _⟩
end
section
theorem curN_true {bs : List Int} {at_ x p : Int} (h : curN bs at_ true = (x, p, true)) : getN bs at_ = some (x, p) := by
 unfold curN at h
 cases hg : getN bs at_ with
 | none => rw [hg] at h; simp at h
 | some xp =>
  obtain ⟨x', p'⟩ := xp
  rw [hg] at h
  simp only [Prod.mk.injEq, and_true] at h
  rw [h.1, h.2]
theorem curN_false {bs : List Int} {at_ x p : Int} (h : curN bs at_ true = (x, p, false)) : getN bs at_ = none := by
 unfold curN at h
 cases hg : getN bs at_ with
 | none => rfl
 | some xp =>
  obtain ⟨x', p'⟩ := xp
  rw [hg] at h
  simp at h
theorem curN_off {bs : List Int} {at_ x p : Int} {k : Bool} (h : curN bs at_ false = (x, p, k)) : k = false := by
 unfold curN at h
 cases hg : getN bs at_ with
 | none => rw [hg] at h; simp at h; exact h.2.2
 | some xp => rw [hg] at h; simp at h; exact h.2.2
theorem head_read {bs : List Int} {x0 p1 n p2 : Int} {k1 k2 : Bool} (h1 : curN bs 0 true = (x0, p1, k1)) (h2 : curN bs p1 k1 = (n, p2, k2)) :
  ((k2 && inB n 0 4) = true → getN bs 0 = some (x0, p1) ∧ countN bs p1 0 4 = some (n, p2)) ∧ ((k2 && inB n 0 4) = false → specRead bs = none) := by
 cases k1 with
 | false =>
  have := curN_off h2
  subst this
  refine ⟨fun h => by simp at h, fun _ => ?_⟩
  unfold specRead
  rw [curN_false h1]
 | true =>
  have g1 := curN_true h1
  cases k2 with
  | false =>
   have g2 := curN_false h2
   refine ⟨fun h => by simp at h, fun _ => ?_⟩
   unfold specRead countN
   rw [g1]
   simp only [g2]
  | true =>
   have g2 := curN_true h2
   simp only [Bool.true_and]
   refine ⟨fun h => ⟨g1, ?_⟩, fun h => ?_⟩
   ·unfold countN
    rw [g2]
    simp only
    rw [if_pos (inB_iff.1 h)]
   ·unfold specRead countN
    rw [g1]
    simp only [g2]
    rw [if_neg (fun hh => by rw [inB_iff.2 hh] at h; cases h)]
theorem pair_step {bs : List Int} {p2 at_ x q1 y q2 : Int} {kx ky : Bool} {j : Nat} {l : List (Int × Int)} (hl : pairsN bs p2 j = some (l, at_)) (h1 : curN bs at_ true = (x, q1, kx)) (h2 : curN bs q1 kx = (y, q2, ky)) :
  (ky = true → pairsN bs p2 (j + 1) = some (l ++ [(x, y)], q2)) ∧ (ky = false → pairsN bs p2 (j + 1) = none) := by
 cases kx with
 | false =>
  have := curN_off h2
  subst this
  refine ⟨fun h => by simp at h, fun _ => ?_⟩
  rw [pairsN, hl]
  simp only [numsN, curN_false h1]
 | true =>
  have g1 := curN_true h1
  cases ky with
  | false =>
   refine ⟨fun h => by simp at h, fun _ => ?_⟩
   rw [pairsN, hl]
   simp only [numsN, g1, curN_false h2]
  | true =>
   refine ⟨fun _ => ?_, fun h => by simp at h⟩
   rw [pairsN, hl]
   simp [numsN, g1, curN_true h2]
theorem spec_leaf_none {bs : List Int} {p1 n p2 : Int} {j : Nat} (h0 : getN bs 0 = some (1, p1)) (h1 : countN bs p1 0 4 = some (n, p2)) (hj : (j : Int) ≤ n) (h : pairsN bs p2 j = none) : specRead bs = none := by
 unfold specRead sleafA
 rw [h0]
 simp only [h1, if_true]
 rw [pairsN_none h n.toNat (by omega)]
end
section
open Go.RowKit

theorem nums_step {bs : List Int} {p at_ x q : Int} {k : Bool} {j : Nat} {l : List Int} (hl : numsN bs p j = some (l, at_)) (h : curN bs at_ true = (x, q, k)) :
  (k = true → numsN bs p (j + 1) = some (l ++ [x], q)) ∧ (k = false → numsN bs p (j + 1) = none) := by
 cases k with
 | false =>
  refine ⟨fun h => (by cases h), fun _ => ?_⟩
  rw [numsN, hl]
  simp only [curN_false h]
 | true =>
  refine ⟨fun _ => ?_, fun h => (by cases h)⟩
  rw [numsN, hl]
  simp only [curN_true h]
def ForkH (bs : List Int) (n p2 : Int) : Prop := ∃ x0 p1, getN bs 0 = some (x0, p1) ∧ x0 ≠ 1 ∧ countN bs p1 0 4 = some (n, p2)
theorem ForkH.read {bs : List Int} {n p2 : Int} (h : ForkH bs n p2) : specRead bs = sforkA bs p2 n.toNat := by
 obtain ⟨x0, p1, h1, h2, h3⟩ := h
 unfold specRead
 rw [h1]
 simp only [h3]
 rw [if_neg h2]
theorem ForkH.n4 {bs : List Int} {n p2 : Int} (h : ForkH bs n p2) : 0 ≤ n ∧ n ≤ 4 := by
 obtain ⟨x0, p1, h1, h2, h3⟩ := h
 have := countN_in h3
 exact ⟨this.1, this.2.1⟩
theorem ForkH.kids_none {bs : List Int} {n p2 : Int} (h : ForkH bs n p2) {j : Nat} (hj : (j : Int) ≤ n) (hn : numsN bs p2 j = none) : specRead bs = none := by
 rw [h.read]
 unfold sforkA
 rw [numsN_none hn n.toNat (by omega)]
theorem ForkH.cuts_none {bs : List Int} {n p2 p3 : Int} {ks : List Int} (h : ForkH bs n p2) (hk : numsN bs p2 n.toNat = some (ks, p3)) {j : Nat} (hj : j ≤ n.toNat - 1) (hn : numsN bs p3 j = none) : specRead bs = none := by
 rw [h.read]
 unfold sforkA sforkB
 simp only [hk]
 rw [numsN_none hn _ hj]
theorem ForkH.count {bs : List Int} {n p2 p3 p4 m p5 : Int} {ks cs : List Int} {k : Bool} (h : ForkH bs n p2) (hk : numsN bs p2 n.toNat = some (ks, p3)) (hc : numsN bs p3 (n.toNat - 1) = some (cs, p4)) (hm : curN bs p4 true = (m, p5, k)) :
  ((k && inB m 0 6) = true → countN bs p4 0 6 = some (m, p5)) ∧ ((k && inB m 0 6) = false → specRead bs = none) := by
 have hr : specRead bs = sforkC bs p4 ks cs := by
  rw [h.read]
  unfold sforkA sforkB
  simp only [hk, hc]
 cases k with
 | false =>
  refine ⟨fun h => by simp at h, fun _ => ?_⟩
  rw [hr]
  unfold sforkC countN
  simp only [curN_false hm]
 | true =>
  simp only [Bool.true_and]
  refine ⟨fun h => ?_, fun h => ?_⟩
  ·unfold countN
   rw [curN_true hm]
   simp only
   rw [if_pos (inB_iff.1 h)]
  ·rw [hr]
   unfold sforkC countN
   rw [curN_true hm]
   simp only
   rw [if_neg (fun hh => by rw [inB_iff.2 hh] at h; cases h)]
theorem msg_step {bs : List Int} {p at_ x q1 y q2 z q3 : Int} {kx ky kz : Bool} {j : Nat} {l : List (Int × Int × Int)} (hl : msgsN bs p j = some (l, at_)) (h1 : curN bs at_ true = (x, q1, kx)) (h2 : curN bs q1 kx = (y, q2, ky)) (h3 : curN bs q2 ky = (z, q3, kz)) :
  (kz = true → msgsN bs p (j + 1) = some (l ++ [(x, y, z)], q3)) ∧ (kz = false → msgsN bs p (j + 1) = none) := by
 cases kx with
 | false =>
  have := curN_off h2
  subst this
  have := curN_off h3
  subst this
  refine ⟨fun h => by simp at h, fun _ => ?_⟩
  rw [msgsN, hl]
  simp only [numsN, curN_false h1]
 | true =>
  have g1 := curN_true h1
  cases ky with
  | false =>
   have := curN_off h3
   subst this
   refine ⟨fun h => by simp at h, fun _ => ?_⟩
   rw [msgsN, hl]
   simp only [numsN, g1, curN_false h2]
  | true =>
   have g2 := curN_true h2
   cases kz with
   | false =>
    refine ⟨fun h => by simp at h, fun _ => ?_⟩
    rw [msgsN, hl]
    simp only [numsN, g1, g2, curN_false h3]
   | true =>
    refine ⟨fun _ => ?_, fun h => by simp at h⟩
    rw [msgsN, hl]
    simp [numsN, g1, g2, curN_true h3]
theorem ForkH.done {bs : List Int} {n p2 p3 p4 m p5 : Int} {ks cs : List Int} (h : ForkH bs n p2) (hk : numsN bs p2 n.toNat = some (ks, p3)) (hc : numsN bs p3 (n.toNat - 1) = some (cs, p4)) (hm : countN bs p4 0 6 = some (m, p5)) :
  specRead bs = match msgsN bs p5 m.toNat with
   | none => none
   | some (ms, r) => some (.inr ⟨ks, cs, ms⟩, r) := by
 rw [h.read]
 unfold sforkA sforkB sforkC
 simp only [hk, hc, hm] <;> cases msgsN bs p5 m.toNat <;> rfl

theorem wrB_ne {w : World} {b1 b2 e1 e2 s1 s2 n1 n2 : Nat} {v1 v2 : Value} {x1 x2 : List Value} (h1 : OwnE w b1 e1 s1 v1 n1 x1) (h2 : OwnE w b2 e2 s2 v2 n2 x2) (he : e1 ≠ e2) {g : Nat} (hg : wrB v1 g) : ¬ wrB v2 g := by
 have key : ∀ {b e s n : Nat} {v : Value} {xs : List Value}, OwnE w b e s v n xs → wrB v g → ∃ cur, w.heap[g]? = some (.cells cur e (0, 0)) := by
  intro b e s n v xs ho hw
  obtain ⟨k, cap, rfl, hc⟩ := hw
  rcases ho with ho | ⟨_, _, g', h'⟩
  ·exact (owns_lt ho (g := g) rfl).2
  ·simp at h'; omega
 intro hg2
 obtain ⟨c1, q1⟩ := key h1 hg
 obtain ⟨c2, q2⟩ := key h2 hg2
 rw [q1] at q2
 simp at q2
 exact he q2.2
theorem OwnE.row' {w : World} {base e size n : Nat} {v : Value} {xs : List Value} (h : OwnE w base e size v n xs) : Row w v n xs := by
 rcases h with h | ⟨rfl, rfl, g, rfl⟩
 ·exact Row.of_owns h
 ·exact ⟨_, g, 0, 0, rfl, Nat.le_refl _, Nat.zero_le _, fun h => absurd h (Nat.lt_irrefl _), fun j u hj => by simp at hj, fun h => by cases h⟩

theorem step_fnB {P : Program} {ops : Array Oper} {o : Oper} {a : Act} {K : Act → World → Prop} {Q : Exit → Act → World → Prop} {E : Prop} {w : World} {R : Ending → World → Prop} (hwt : Region.wanted o (yielded ops a.tmps) = true) (f : FuncId) (xs : List Operand) (ats : Array TypeId)
  (ho : o.op = .call { callee := .value (.func f), args := xs.toArray, argTypes := ats }) (hrun : ∀ args w, (callFunc f args).run P w = .ok (.enter f args) w) (args : List Value) (he : xs.map a.eval = args)
  (h : Calls P f args.toArray w R) (hk : ∀ e w', R e w' → ∃ v, e = .returned v ∧ K (a.put o.dst v) w') :
  if Region.wanted o (yielded ops a.tmps) = true then Oper.wp P o a w K Q else E := by
 rw [if_pos hwt]
 have ef : a.eval (.func f) = .func (.func f) #[] #[] := rfl
 have hx : execOp a.eval o = callFunc f args.toArray := by
  unfold execOp
  simp [ho, resolve, Deferred.ofValue, invoke, ef, he]
 unfold Oper.wp
 rw [hx, hrun, Oper.upon_enter]
 refine Calls.mono h ?_
 intro e w' hr
 obtain ⟨v, rfl, hk⟩ := hk e w' hr
 exact hk
end
section
open Go.RowKit

def treeV : NodeV → Tr
 | .inl l => ⟨true, l, [], [], []⟩
 | .inr f => ⟨false, [], f.cuts, List.replicate f.kids.length ⟨false, [], [], [], []⟩, f.buf⟩
def kidsV : NodeV → List Int
 | .inl _ => []
 | .inr f => f.kids
theorem putNodeF_V (nv : NodeV) : (okV nv ∧ okNums (numsV nv) → putNodeF (treeV nv) (kidsV nv) = some (formsB (numsV nv))) ∧ (¬ (okV nv ∧ okNums (numsV nv)) → putNodeF (treeV nv) (kidsV nv) = none) := by
 have e1 : nodeNums (treeV nv) (kidsV nv) = numsV nv := by
  cases nv with
  | inl l => rfl
  | inr f => rfl
 have e2 : nodeOkP (treeV nv) (kidsV nv) ↔ okV nv := by
  cases nv with
  | inl l => simp [nodeOkP, treeV, kidsV, okV]
  | inr f => simp [nodeOkP, treeV, kidsV, okV]
 unfold putNodeF
 rw [e1]
 refine ⟨fun h => ?_, fun h => ?_⟩
 ·rw [if_pos ⟨e2.2 h.1, h.2⟩]
 ·rw [if_neg (fun hh => h ⟨e2.1 hh.1, hh.2⟩)]
theorem strOfNums_inj {l m : List Int} (hl : inByte l) (hm : inByte m) (h : strOfNums l = strOfNums m) : l = m := by
 have h1 : l.map (fun n => UInt8.ofNat n.toNat) = m.map (fun n => UInt8.ofNat n.toNat) := by
  have := congrArg (fun s => s.data.toList) h
  simpa [strOfNums] using this
 clear h
 induction l generalizing m with
 | nil => cases m with
  | nil => rfl
  | cons b m => simp at h1
 | cons a l ih => cases m with
  | nil => simp at h1
  | cons b m =>
   simp only [List.map_cons, List.cons.injEq] at h1
   have ha := hl a (by simp)
   have hb := hm b (by simp)
   have e : a = b := by
    have := congrArg UInt8.toNat h1.1
    simp at this
    omega
   rw [e, ih (fun x hx => hl x (by simp [hx])) (fun x hx => hm x (by simp [hx])) h1.2]
theorem conv_zero (u : World) (p : Addr) (cap : Nat) : (convert 22 9 (.slice (some p) 0 cap)).run Try.prog u = .ok (.string (strOfNums [])) u := by
 rw [run_convert_bytes_string u 22 9 5 _ 0 cap Try.underlying22 Try.underlying5 Try.underlying9, run_bytesToString u p 0 cap [] (by simp [loadCells]; rfl)]
 rfl
theorem conv_row {u : World} {a : Option Addr} {l : List Int} {cap : Nat} (h : Row u (.slice a l.length cap) l.length (flatB l)) : (convert 22 9 (.slice a l.length cap)).run Try.prog u = .ok (.string (strOfNums l)) u := by
 obtain ⟨a', b, off, cap', he, h2, h3, h4, h5, h6⟩ := h
 have e1 : a = a' := by simp at he; exact he.1
 have e3 : cap = cap' := by simp at he; exact he.2
 clear he
 subst e1
 subst e3
 by_cases hl : 0 < l.length
 ·have := h4 hl
  subst this
  exact run_convert_bytes_arg u 22 5 Try.underlying22 Try.underlying5 b off l.length cap l rfl (fun i hi => h5 i _ (flatB_at l i hi)) 9 Try.underlying9
 ·have hn : l = [] := List.length_eq_zero_iff.1 (by omega)
  subst hn
  cases a with
  | none =>
   have := h6 rfl
   subst this
   exact run_convert_bytes_nil u 22 5 Try.underlying22 Try.underlying5 0 0 9 Try.underlying9
  | some p => exact conv_zero u p cap

theorem conv_own2 {base : Nat} {u : World} {v : Value} {l : List Int} (h : OwnB base u v l) : (convert 22 9 v).run Try.prog u = .ok (.string (strOfNums l)) u := by
 have h0 := h
 obtain ⟨hl, ⟨rfl, hz⟩ | ⟨g, cap, cur, rfl, _⟩⟩ := h
 ·have : l = [] := List.length_eq_zero_iff.1 hz
  subst this
  exact run_convert_bytes_nil u 22 5 Try.underlying22 Try.underlying5 0 0 9 Try.underlying9
 ·refine run_convert_bytes_arg u 22 5 Try.underlying22 Try.underlying5 g 0 l.length cap l rfl (fun i hi => ?_) 9 Try.underlying9
  rw [Nat.zero_add]
  exact (World.ownsRow.cellAt h0 i (by omega)).trans (flatB_at l i hi)
end
end Go.Proofs.Ytekcnibohikmdaa
