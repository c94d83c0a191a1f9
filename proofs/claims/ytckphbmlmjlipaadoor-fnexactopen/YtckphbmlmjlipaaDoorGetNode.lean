/-
  The program's GetNode: a mistake is a panic that it recovers.
-/
import Derived.Test.YtckphbmlmjlipaaDoorNode
import Derived.Test.YtckphbmlmjlipaaDoorGetNum
namespace Go.Proofs.YtckphbmlmjlipaaDoor
open Go.RowKit

/-- the tree's variable -/
def BoxIs (w : World) (a : Nat) (x0 x1 x2 x3 x4 : Value) : Prop := w.heap[a]? = some (.cells #[x0, x1, x2, x3, x4] 32 (0, 0))
theorem BoxIs.cell {w : World} {a : Nat} {x0 x1 x2 x3 x4 : Value} (h : BoxIs w a x0 x1 x2 x3 x4) : w.cell? ⟨a, 0, none⟩ = some x0 ∧ w.cell? ⟨a, 1, none⟩ = some x1 ∧ w.cell? ⟨a, 2, none⟩ = some x2 ∧ w.cell? ⟨a, 3, none⟩ = some x3 ∧ w.cell? ⟨a, 4, none⟩ = some x4 := by
  refine ⟨?_, ?_, ?_, ?_, ?_⟩ <;> (rw [cell_of_cells h]; rfl)
theorem BoxIs.live {w : World} {a : Nat} {x0 x1 x2 x3 x4 : Value} (h : BoxIs w a x0 x1 x2 x3 x4) (j : Nat) : w.frozen? ⟨a, j, none⟩ = false := frozen_of_cells h
theorem BoxIs.chg {F : Nat → Prop} {w w' : World} {a : Nat} {x0 x1 x2 x3 x4 : Value} (h : BoxIs w a x0 x1 x2 x3 x4) (hc : Chg F w w') (hF : ¬ F a) : BoxIs w' a x0 x1 x2 x3 x4 := row_chg h hc hF
theorem BoxIs.set {w : World} {a : Nat} {x0 x1 x2 x3 x4 : Value} (h : BoxIs w a x0 x1 x2 x3 x4) (y0 y1 y2 y3 y4 : Value) : BoxIs (set5 w a y0 y1 y2 y3 y4) a y0 y1 y2 y3 y4 := set5_at _ _ _ _ _ h

set_option maxHeartbeats 1000000 in
theorem getNode_catch (a b c : Nat) (x0 x1 x2 x3 x4 y : Value) (z : Bool) (ea : Addr) (w : World) (ha : BoxIs w a x0 x1 x2 x3 x4) (hb : VarIs w b y 28) (hc : VarIs w c (.bool z) 4) (hab : a ≠ b) (hac : a ≠ c) (hbc : b ≠ c) :
    CallsD Tryd.prog 63 #[.pointer (some ⟨a, 0, none⟩), .pointer (some ⟨b, 0, none⟩), .pointer (some ⟨c, 0, none⟩)] (.panicking (boom ea)) w fun e u' w' =>
      e = .returned (.tuple #[]) ∧ u' = .panicking [{ v := ErrV ea, recovered := true }] ∧ BoxIs w' a (.bool false) (.slice none 0 0) (.slice none 0 0) (.slice none 0 0) (.slice none 0 0) ∧ VarIs w' b (.slice none 0 0) 28 ∧ VarIs w' c (.bool false) 4 ∧ Chg (fun g => g = a ∨ g = b ∨ g = c) w w' := by
  obtain ⟨e10, e11, e12, e13, e14⟩ := ha.cell
  have f1 := ha.live
  have s1 := set5_chg w a (.bool false) (.slice none 0 0) (.slice none 0 0) (.slice none 0 0) (.slice none 0 0)
  have a1 := ha.set (.bool false) (.slice none 0 0) (.slice none 0 0) (.slice none 0 0) (.slice none 0 0)
  have hb1 : VarIs (set5 w a (.bool false) (.slice none 0 0) (.slice none 0 0) (.slice none 0 0) (.slice none 0 0)) b y 28 := hb.chg s1 (by omega)
  have hc1 : VarIs (set5 w a (.bool false) (.slice none 0 0) (.slice none 0 0) (.slice none 0 0) (.slice none 0 0)) c (.bool z) 4 := hc.chg s1 (by omega)
  have e2 := hb1.cell
  have f2 := hb1.live
  have hc2 := hc1.setOther (.slice none 0 0) hbc
  have e3 := hc2.cell
  have f3 := hc2.live
  have FIN : Hid (BoxIs (((set5 w a (.bool false) (.slice none 0 0) (.slice none 0 0) (.slice none 0 0) (.slice none 0 0)).setCell ⟨b, 0, none⟩ (.slice none 0 0)).setCell ⟨c, 0, none⟩ (.bool false)) a (.bool false) (.slice none 0 0) (.slice none 0 0) (.slice none 0 0) (.slice none 0 0) ∧ VarIs (((set5 w a (.bool false) (.slice none 0 0) (.slice none 0 0) (.slice none 0 0) (.slice none 0 0)).setCell ⟨b, 0, none⟩ (.slice none 0 0)).setCell ⟨c, 0, none⟩ (.bool false)) b (.slice none 0 0) 28 ∧ VarIs (((set5 w a (.bool false) (.slice none 0 0) (.slice none 0 0) (.slice none 0 0) (.slice none 0 0)).setCell ⟨b, 0, none⟩ (.slice none 0 0)).setCell ⟨c, 0, none⟩ (.bool false)) c (.bool false) 4 ∧ Chg (fun g => g = a ∨ g = b ∨ g = c) w (((set5 w a (.bool false) (.slice none 0 0) (.slice none 0 0) (.slice none 0 0) (.slice none 0 0)).setCell ⟨b, 0, none⟩ (.slice none 0 0)).setCell ⟨c, 0, none⟩ (.bool false))) :=
    ⟨(a1.chg ((Chg.refl (fun g => g = b) _).setAt b 0 rfl (.slice none 0 0)) hab).chg ((Chg.refl (fun g => g = c) _).setAt c 0 rfl (.bool false)) hac, (hb1.set _).setOther _ hbc.symm, hc2.set _,
      (((Chg.refl (fun g => g = a ∨ g = b ∨ g = c) w).trans s1 (fun _ _ h => .inl h)).setAt b 0 (.inr (.inl rfl)) _).setAt c 0 (.inr (.inr rfl)) _⟩
  unfold set5 at e2 f2 e3 f3 FIN
  clear s1 a1 hb1 hc1 hc2 ha hb hc
  refine callsD_of_wpS Tryd.func63 rfl fun c₀ cs hu => ?_
  unfold boom ErrV at hu
  apply wpS_seq
  apply wpS_region
  simp [wpOpsS, go_sem, recoverD, hu, Tryd.ntmps63, Exit.thenS]
  refine wpS_cond (t := true) (by simp [Act.eval, Array.replicate]) ?_
  simp only [if_true]
  apply wpS_region
  simp [wpOpsS, go_sem, e10, e11, e12, e13, e14, f1, e2, f2, e3, f3, bodyPostS, results, Tryd.results63]
  exact ⟨rfl, FIN.out⟩

theorem getNode_idle (p q r : Value) (w : World) :
    CallsD Tryd.prog 63 #[p, q, r] .returning w fun e u' w' => e = .returned (.tuple #[]) ∧ u' = .returning ∧ w' = w := by
  refine callsD_of_wpS Tryd.func63 rfl fun c₀ cs hu => ?_
  apply wpS_seq
  apply wpS_region
  simp [wpOpsS, go_sem, recoverD, hu, Tryd.ntmps63, Exit.thenS]
  refine wpS_cond (t := false) (by simp [Act.eval, Array.replicate]) ?_
  simp only [Bool.false_eq_true, if_false]
  refine wpS_of_wp (wp_skip ?_)
  cases c₀
  simp_all [bodyPostS, results, Tryd.results63]

theorem ErrIs.kept {F : Nat → Prop} {ea : Addr} {w w' : World} (h : ErrIs ea w) (hc : Chg F w w') (hF : ¬ F 0) : ErrIs ea w' := cell_kept (b := 0) (o := 0) h hc hF
/-- what GetNode makes of its bytes -/
def getNodeF (bs : List Int) : Option NodeV := match nodeN bs 0 with
  | none => none
  | some (n, p) => if p = (bs.length : Int) then some n else none
def GetNodePost (base : Nat) (g : Option NodeV) (e : Ending) (w' : World) : Prop := match g with
  | some n => ∃ vt vk, e = .returned (.tuple #[vt, vk, .bool true]) ∧ NodeAt base w' vt vk n
  | none => e = .returned (.tuple #[treeZ, .slice none 0 0, .bool false])

set_option maxRecDepth 100000 in
set_option maxHeartbeats 300000 in
theorem implGetNode_any (ea : Addr) (v : Value) (bs : List Int) (w : World) (hr : Row w v bs.length (flatB bs)) (hbs : inByte bs) (he : ErrIs ea w) :
    Calls Tryd.prog 55 #[v] w fun e w' => GetNodePost w.heap.size (getNodeF bs) e w' ∧ Below w.heap.size w w' := by
  have hmf : ∀ (fn : Fn) (first cap : Array Value) (w : World), (Instr.makeFunc fn first cap).run Tryd.prog w = .ok (.func fn first cap) w := fun _ _ _ _ => rfl
  obtain ⟨av, bv, ov, cv, hv, _⟩ := id hr
  have h00 : 0 < w.heap.size := cell_lt he
  have b1 : Below w.heap.size w (w.alloc (.cells #[.bool false, .slice none 0 0, .slice none 0 0, .slice none 0 0, .slice none 0 0] 32)) := bel_new _ _
  have n1 : BoxIs (w.alloc (.cells #[.bool false, .slice none 0 0, .slice none 0 0, .slice none 0 0, .slice none 0 0] 32)) w.heap.size (.bool false) (.slice none 0 0) (.slice none 0 0) (.slice none 0 0) (.slice none 0 0) := heap_alloc_new _ _
  generalize hW1 : w.alloc (.cells #[.bool false, .slice none 0 0, .slice none 0 0, .slice none 0 0, .slice none 0 0] 32) = W1 at b1 n1
  have s1 : W1.heap.size = w.heap.size + 1 := by rw [← hW1]; simp
  have b2 : Below W1.heap.size W1 (W1.alloc (.cells #[.slice none 0 0] 28)) := bel_new _ _
  have n2 : VarIs (W1.alloc (.cells #[.slice none 0 0] 28)) W1.heap.size (.slice none 0 0) 28 := heap_alloc_new _ _
  generalize hW2 : W1.alloc (.cells #[.slice none 0 0] 28) = W2 at b2 n2
  have s2 : W2.heap.size = W1.heap.size + 1 := by rw [← hW2]; simp
  have b3 : Below W2.heap.size W2 (W2.alloc (.cells #[.bool false] 4)) := bel_new _ _
  have n3 : VarIs (W2.alloc (.cells #[.bool false] 4)) W2.heap.size (.bool false) 4 := heap_alloc_new _ _
  generalize hW3 : W2.alloc (.cells #[.bool false] 4) = W3 at b3 n3
  have s3 : W3.heap.size = W2.heap.size + 1 := by rw [← hW3]; simp
  have b4 : Below W3.heap.size W3 (W3.alloc (.cells #[.int .i64 0] 3)) := bel_new _ _
  have n4 : PlaceIs (W3.alloc (.cells #[.int .i64 0] 3)) W3.heap.size 0 := heap_alloc_new _ _
  generalize hW4 : W3.alloc (.cells #[.int .i64 0] 3) = W4 at b4 n4
  have s4 : W4.heap.size = W3.heap.size + 1 := by rw [← hW4]; simp
  have b5 : Below W4.heap.size W4 (W4.alloc (.cells #[v, .pointer (some ⟨w.heap.size + 1 + 1 + 1, 0, none⟩)] 108)) := bel_new _ _
  generalize hW5 : W4.alloc (.cells #[v, .pointer (some ⟨w.heap.size + 1 + 1 + 1, 0, none⟩)] 108) = W5 at b5
  have s5 : W5.heap.size = W4.heap.size + 1 := by rw [← hW5]; simp
  have E5 : Hid (((((w.alloc (.cells #[.bool false, .slice none 0 0, .slice none 0 0, .slice none 0 0, .slice none 0 0] 32)).alloc (.cells #[.slice none 0 0] 28)).alloc (.cells #[.bool false] 4)).alloc (.cells #[.int .i64 0] 3)).alloc (.cells #[v, .pointer (some ⟨w.heap.size + 1 + 1 + 1, 0, none⟩)] 108) = W5) := by
    show _ = _
    rw [hW1, hW2, hW3, hW4, hW5]
  rw [s1] at n2
  rw [s2, s1] at n3
  rw [s3, s2, s1] at n4
  have B5 : Below w.heap.size w W5 := Below.and b1 (Below.and b2 (Below.and b3 (Below.and b4 b5)))
  have p5 : PlaceIs W5 (w.heap.size + 1 + 1 + 1) 0 := n4.below b5
  have R5 : Reads W5 v bs (w.heap.size + 1 + 1 + 1) 0 ea := ⟨hr.below B5, hbs, p5, he.below B5, by omega⟩
  have x5 : BoxIs W5 w.heap.size (.bool false) (.slice none 0 0) (.slice none 0 0) (.slice none 0 0) (.slice none 0 0) := n1.chg (Chg.of_below (F := fun _ => False) (Below.and b2 (Below.and b3 (Below.and b4 b5)))) id
  have y5 : VarIs W5 (w.heap.size + 1) (.slice none 0 0) 28 := n2.chg (Chg.of_below (F := fun _ => False) (Below.and b3 (Below.and b4 b5))) id
  have z5 : VarIs W5 (w.heap.size + 1 + 1) (.bool false) 4 := n3.chg (Chg.of_below (F := fun _ => False) (Below.and b4 b5)) id
  have hs5 : w.heap.size + 1 + 1 + 1 + 1 ≤ W5.heap.size := by omega
  have HH : Hid _ := And.intro R5 (And.intro x5 (And.intro y5 (And.intro z5 B5)))
  clear b1 n1 hW1 s1 b2 n2 hW2 s2 b3 n3 hW3 s3 b4 n4 hW4 s4 b5 hW5 s5 B5 R5 p5 x5 y5 z5 hr he
  subst hv
  go_enter_defers Tryd.func55, Tryd.ntmps55
  go_wp2_with fail
  rw [E5.out]
  obtain ⟨R5, x5, y5, z5, B5⟩ := HH.out
  refine (node_any ea _ bs (w.heap.size + 1 + 1 + 1) 0 W5 R5).mono ?_
  rintro e w1 ⟨hn, hc⟩
  have x1 := x5.chg hc (by show ¬ _ = _; omega)
  have y1 := y5.chg hc (by show ¬ _ = _; omega)
  have z1 := z5.chg hc (by show ¬ _ = _; omega)
  have e1 : ErrIs ea w1 := R5.err.apart hc (by omega)
  have B1 : Below w.heap.size w w1 := B5.trans (hc.below (fun g _ hg => by omega) B5.size)
  clear R5 x5 y5 z5 B5 hc HH E5
  cases hg : nodeN bs 0 with
  | none =>
    rw [hg] at hn
    have hn' : e = .panicked (boom ea) := hn
    subst hn'
    clear hn
    have HG : Hid (getNodeF bs = none) := by show _ = _; unfold getNodeF; rw [hg]
    clear hg
    go_wp2
    refine leaves_cons (f := 63) (args := #[Value.pointer (some ⟨w.heap.size, 0, none⟩), Value.pointer (some ⟨w.heap.size + 1, 0, none⟩), Value.pointer (some ⟨w.heap.size + 1 + 1, 0, none⟩)]) (by simp) (by simp [go_sem]) ?_
    refine (getNode_catch _ _ _ _ _ _ _ _ _ false ea _ x1 y1 z1 (by omega) (by omega) (by omega)).mono ?_
    rintro e u' w2 ⟨rfl, rfl, x2, y2, z2, ch⟩
    have B2 : Below w.heap.size w w2 := B1.trans (ch.below (fun g _ hg => by omega) B1.size)
    obtain ⟨q0, q1, q2, q3, q4⟩ := x2.cell
    rw [HG.out]
    simp [Leaves, settle, results, Tryd.results55, go_sem, q0, q1, q2, q3, q4, y2.cell, z2.cell, B2, GetNodePost]
  | some xp =>
    obtain ⟨n, p⟩ := xp
    rw [hg] at hn
    obtain ⟨vt, vk, rfl, N1, p1⟩ := hn
    obtain ⟨t0, a1, a2, a3, a4, ak, m1, m2, m3, m4, mk, q1, q2, q3, q4, qk, rfl, rfl⟩ := N1.shape
    have s1 := set5_chg w1 w.heap.size (.bool t0) (.slice a1 m1 q1) (.slice a2 m2 q2) (.slice a3 m3 q3) (.slice a4 m4 q4)
    have x2 := x1.set (.bool t0) (.slice a1 m1 q1) (.slice a2 m2 q2) (.slice a3 m3 q3) (.slice a4 m4 q4)
    have y2 := (y1.chg s1 (by omega))
    have s2 : Chg (fun g => g = w.heap.size ∨ g = w.heap.size + 1) w1 ((set5 w1 w.heap.size (.bool t0) (.slice a1 m1 q1) (.slice a2 m2 q2) (.slice a3 m3 q3) (.slice a4 m4 q4)).setCell ⟨w.heap.size + 1, 0, none⟩ (.slice ak mk qk)) := ((Chg.refl (fun g => g = w.heap.size ∨ g = w.heap.size + 1) w1).trans s1 (fun _ _ h => .inl h)).setAt (w.heap.size + 1) 0 (.inr rfl) _
    have x3 := x2.chg ((Chg.refl (fun g => g = w.heap.size + 1) _).setAt (w.heap.size + 1) 0 rfl (.slice ak mk qk)) (by omega)
    have y3 := y2.set (.slice ak mk qk)
    have z3 := z1.chg s2 (by omega)
    have N3 := N1.chg s2 (fun g hg => by omega)
    have p3 : PlaceIs ((set5 w1 w.heap.size (.bool t0) (.slice a1 m1 q1) (.slice a2 m2 q2) (.slice a3 m3 q3) (.slice a4 m4 q4)).setCell ⟨w.heap.size + 1, 0, none⟩ (.slice ak mk qk)) (w.heap.size + 1 + 1 + 1) p := by
      unfold PlaceIs
      rw [s2.block _ p1.lt (by omega)]
      exact p1
    have e3 : ErrIs ea ((set5 w1 w.heap.size (.bool t0) (.slice a1 m1 q1) (.slice a2 m2 q2) (.slice a3 m3 q3) (.slice a4 m4 q4)).setCell ⟨w.heap.size + 1, 0, none⟩ (.slice ak mk qk)) := e1.kept s2 (by omega)
    have B3 : Below w.heap.size w ((set5 w1 w.heap.size (.bool t0) (.slice a1 m1 q1) (.slice a2 m2 q2) (.slice a3 m3 q3) (.slice a4 m4 q4)).setCell ⟨w.heap.size + 1, 0, none⟩ (.slice ak mk qk)) := B1.trans (s2.below (fun g _ hg => by omega) B1.size)
    unfold set5 at x3 y3 z3 N3 p3 e3 B3
    obtain ⟨u0, u1, u2, u3, u4⟩ := x1.cell
    have f1 := x1.live
    have k2 := y2.cell
    have f2 := y2.live
    unfold set5 at k2 f2
    have I : Hid _ := And.intro x3 (And.intro y3 (And.intro z3 (And.intro N3 (And.intro p3 (And.intro e3 B3)))))
    have HG : Hid _ := hg
    clear hg x1 y1 z1 e1 B1 N1 p1 s1 x2 y2 s2 x3 y3 z3 N3 p3 e3 B3
    have C5 := I.out.2.2.2.2.1
    have c5 : ((((((w1.setCell ⟨w.heap.size, 0, none⟩ (.bool t0)).setCell ⟨w.heap.size, 1, none⟩ (.slice a1 m1 q1)).setCell ⟨w.heap.size, 2, none⟩ (.slice a2 m2 q2)).setCell ⟨w.heap.size, 3, none⟩ (.slice a3 m3 q3)).setCell ⟨w.heap.size, 4, none⟩ (.slice a4 m4 q4)).setCell ⟨w.heap.size + 1, 0, none⟩ (.slice ak mk qk)).cell? ⟨w.heap.size + 1 + 1 + 1, 0, none⟩ = some (.int .i64 p) := by rw [cell_of_cells C5]; rfl
    clear C5
    go_wp2_with fail
    generalize ((((((w1.setCell ⟨w.heap.size, 0, none⟩ (.bool t0)).setCell ⟨w.heap.size, 1, none⟩ (.slice a1 m1 q1)).setCell ⟨w.heap.size, 2, none⟩ (.slice a2 m2 q2)).setCell ⟨w.heap.size, 3, none⟩ (.slice a3 m3 q3)).setCell ⟨w.heap.size, 4, none⟩ (.slice a4 m4 q4)).setCell ⟨w.heap.size + 1, 0, none⟩ (.slice ak mk qk)) = w3 at *
    clear u0 u1 u2 u3 u4 f1 k2 f2 c5
    by_cases hp : p = (bs.length : Int)
    · have HF : Hid (getNodeF bs = some n) := by show _ = _; unfold getNodeF; rw [HG.out]; simp [hp]
      refine (demand_yes (by simp [hp]) _).mono ?_
      rintro e w4 ⟨rfl, rfl⟩
      obtain ⟨u0, u1, u2, u3, u4⟩ := I.out.1.cell
      have f1 := I.out.1.live
      have k2 := I.out.2.1.cell
      have f2 := I.out.2.1.live
      have k3 := I.out.2.2.1.cell
      have f3 := I.out.2.2.1.live
      go_wp2_with fail
      go_region
      all_goals
        go_wp2
        refine leaves_cons (f := 63) (args := #[Value.pointer (some ⟨w.heap.size, 0, none⟩), Value.pointer (some ⟨w.heap.size + 1, 0, none⟩), Value.pointer (some ⟨w.heap.size + 1 + 1, 0, none⟩)]) (by simp) (by simp [go_sem]) ?_
        refine (getNode_idle _ _ _ _).mono ?_
        rintro e u' w2 ⟨rfl, rfl, rfl⟩
        rw [HF.out]
        simp [Leaves, settle, results, Tryd.results55, go_sem, u0, u1, u2, u3, u4, k2, k3, GetNodePost]
        have CF := ((((((((Chg.refl (fun g => g = w.heap.size ∨ g = w.heap.size + 1 ∨ g = w.heap.size + 1 + 1) w3).setAt w.heap.size 0 (.inl rfl) (.bool t0)).setAt w.heap.size 1 (.inl rfl) (.slice a1 m1 q1)).setAt w.heap.size 2 (.inl rfl) (.slice a2 m2 q2)).setAt w.heap.size 3 (.inl rfl) (.slice a3 m3 q3)).setAt w.heap.size 4 (.inl rfl) (.slice a4 m4 q4)).setAt (w.heap.size + 1) 0 (.inr (.inl rfl)) (.slice ak mk qk)).setAt (w.heap.size + 1 + 1) 0 (.inr (.inr rfl)) (.bool true)).drew
        exact ⟨⟨_, _, ⟨rfl, rfl⟩, (I.out.2.2.2.1.chg CF (fun g hg => by omega)).mono (by omega)⟩, I.out.2.2.2.2.2.2.trans (CF.below (fun g _ hg => by omega) I.out.2.2.2.2.2.2.size)⟩
    · have HF : Hid (getNodeF bs = none) := by show _ = _; unfold getNodeF; rw [HG.out]; simp [hp]
      refine (demand_no (by simp [hp]) ea _ I.out.2.2.2.2.2.1).mono ?_
      rintro e w4 ⟨rfl, rfl⟩
      go_wp2
      refine leaves_cons (f := 63) (args := #[Value.pointer (some ⟨w.heap.size, 0, none⟩), Value.pointer (some ⟨w.heap.size + 1, 0, none⟩), Value.pointer (some ⟨w.heap.size + 1 + 1, 0, none⟩)]) (by simp) (by simp [go_sem]) ?_
      refine (getNode_catch _ _ _ _ _ _ _ _ _ false ea _ I.out.1 I.out.2.1 I.out.2.2.1 (by omega) (by omega) (by omega)).mono ?_
      rintro e u' w2 ⟨rfl, rfl, x2, y2, z2, ch⟩
      have B2 : Below w.heap.size w w2 := I.out.2.2.2.2.2.2.trans (ch.below (fun g _ hg => by omega) I.out.2.2.2.2.2.2.size)
      obtain ⟨q0, q1, q2, q3, q4⟩ := x2.cell
      rw [HF.out]
      simp [Leaves, settle, results, Tryd.results55, go_sem, q0, q1, q2, q3, q4, y2.cell, z2.cell, B2, GetNodePost]

end Go.Proofs.YtckphbmlmjlipaaDoor
