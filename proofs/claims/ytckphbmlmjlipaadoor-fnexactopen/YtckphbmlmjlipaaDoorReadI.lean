/-
  The program's ReadTree: a mistake is a panic that it recovers.
-/
import Derived.Test.YtckphbmlmjlipaaDoorTreeAtI
import Derived.Test.YtckphbmlmjlipaaDoorGetNode
import Derived.Test.YtckphbmlmjlipaaDoorPart9
namespace Go.Proofs.YtckphbmlmjlipaaDoor
open Go.RowKit

/-- the tree of a page -/
def readT (l : List ByteArray) (a : Int) : Option Tr := match readR (pgB l) 7 a with
  | none => none
  | some T => if okT T = true then some T else none
/-- what ReadTree answers -/
def ReadRd (base : Nat) (g : Option Tr) (e : Ending) (w' : World) : Prop := match g with
  | none => e = .returned (.tuple #[treeZ, .bool false])
  | some T => ∃ x : TV, e = .returned (.tuple #[x.val, .bool true]) ∧ TreeD 7 w' (Zone base w'.heap.size) x T
theorem ReadRd.none {base : Nat} {g : Option Tr} {w' : World} (h : g = .none) : ReadRd base g (.returned (.tuple #[treeZ, .bool false])) w' := by subst h; rfl

set_option maxHeartbeats 1000000 in
theorem readTree_catch (a c : Nat) (x0 x1 x2 x3 x4 : Value) (z : Bool) (ea : Addr) (w : World) (ha : BoxIs w a x0 x1 x2 x3 x4) (hc : VarIs w c (.bool z) 4) (hac : a ≠ c) :
    CallsD Tryd.prog 22 #[.pointer (some ⟨a, 0, none⟩), .pointer (some ⟨c, 0, none⟩)] (.panicking (boom ea)) w fun e u' w' =>
      e = .returned (.tuple #[]) ∧ u' = .panicking [{ v := ErrV ea, recovered := true }] ∧ BoxIs w' a (.bool false) (.slice none 0 0) (.slice none 0 0) (.slice none 0 0) (.slice none 0 0) ∧ VarIs w' c (.bool false) 4 ∧ Chg (fun g => g = a ∨ g = c) w w' := by
  obtain ⟨e10, e11, e12, e13, e14⟩ := ha.cell
  have f1 := ha.live
  have s1 := set5_chg w a (.bool false) (.slice none 0 0) (.slice none 0 0) (.slice none 0 0) (.slice none 0 0)
  have a1 := ha.set (.bool false) (.slice none 0 0) (.slice none 0 0) (.slice none 0 0) (.slice none 0 0)
  have hc1 : VarIs (set5 w a (.bool false) (.slice none 0 0) (.slice none 0 0) (.slice none 0 0) (.slice none 0 0)) c (.bool z) 4 := hc.chg s1 (by omega)
  have e3 := hc1.cell
  have f3 := hc1.live
  have FIN : Hid (BoxIs ((set5 w a (.bool false) (.slice none 0 0) (.slice none 0 0) (.slice none 0 0) (.slice none 0 0)).setCell ⟨c, 0, none⟩ (.bool false)) a (.bool false) (.slice none 0 0) (.slice none 0 0) (.slice none 0 0) (.slice none 0 0) ∧ VarIs ((set5 w a (.bool false) (.slice none 0 0) (.slice none 0 0) (.slice none 0 0) (.slice none 0 0)).setCell ⟨c, 0, none⟩ (.bool false)) c (.bool false) 4 ∧ Chg (fun g => g = a ∨ g = c) w ((set5 w a (.bool false) (.slice none 0 0) (.slice none 0 0) (.slice none 0 0) (.slice none 0 0)).setCell ⟨c, 0, none⟩ (.bool false))) :=
    ⟨a1.chg ((Chg.refl (fun g => g = c) _).setAt c 0 rfl (.bool false)) hac, hc1.set _,
      ((Chg.refl (fun g => g = a ∨ g = c) w).trans s1 (fun _ _ h => .inl h)).setAt c 0 (.inr rfl) _⟩
  unfold set5 at e3 f3 FIN
  clear s1 a1 hc1 ha hc
  refine callsD_of_wpS Tryd.func22 rfl fun c₀ cs hu => ?_
  unfold boom ErrV at hu
  apply wpS_seq
  apply wpS_region
  simp [wpOpsS, go_sem, recoverD, hu, Tryd.ntmps22, Exit.thenS]
  refine wpS_cond (t := true) (by simp [Act.eval, Array.replicate]) ?_
  simp only [if_true]
  apply wpS_region
  simp [wpOpsS, go_sem, e10, e11, e12, e13, e14, f1, e3, f3, bodyPostS, results, Tryd.results22]
  exact ⟨rfl, FIN.out⟩

theorem readTree_idle (p q : Value) (w : World) :
    CallsD Tryd.prog 22 #[p, q] .returning w fun e u' w' => e = .returned (.tuple #[]) ∧ u' = .returning ∧ w' = w := by
  refine callsD_of_wpS Tryd.func22 rfl fun c₀ cs hu => ?_
  apply wpS_seq
  apply wpS_region
  simp [wpOpsS, go_sem, recoverD, hu, Tryd.ntmps22, Exit.thenS]
  refine wpS_cond (t := false) (by simp [Act.eval, Array.replicate]) ?_
  simp only [Bool.false_eq_true, if_false]
  refine wpS_of_wp (wp_skip ?_)
  cases c₀
  simp_all [bodyPostS, results, Tryd.results22]

set_option maxRecDepth 100000 in
set_option maxHeartbeats 1000000 in
theorem implReadTree_any (ea : Addr) (vp vs : Value) (l : List ByteArray) (hz : ∀ s ∈ l, s.size ≤ maxLen) (root : Int) (w : World) (hr : Row w vp l.length (flatS l)) (he : ErrIs ea w) :
    Calls Tryd.prog 8 #[.agg #[vp, vs], .int .i64 root] w fun e w' => ReadRd w.heap.size (readT l root) e w' ∧ Below w.heap.size w w' := by
  have hmf : ∀ (fn : Fn) (first cap : Array Value) (w : World), (Instr.makeFunc fn first cap).run Tryd.prog w = .ok (.func fn first cap) w := fun _ _ _ _ => rfl
  have h00 : 0 < w.heap.size := cell_lt he
  have b1 : Below w.heap.size w (w.alloc (.cells #[vp, vs] 37)) := bel_new _ _
  have n1 := heap_alloc_new w (.cells #[vp, vs] 37)
  generalize hW1 : w.alloc (.cells #[vp, vs] 37) = W1 at b1 n1
  have s1 : W1.heap.size = w.heap.size + 1 := by rw [← hW1]; simp
  have b2 : Below W1.heap.size W1 (W1.alloc (.cells #[.bool false, .slice none 0 0, .slice none 0 0, .slice none 0 0, .slice none 0 0] 32)) := bel_new _ _
  have n2 : BoxIs (W1.alloc (.cells #[.bool false, .slice none 0 0, .slice none 0 0, .slice none 0 0, .slice none 0 0] 32)) W1.heap.size (.bool false) (.slice none 0 0) (.slice none 0 0) (.slice none 0 0) (.slice none 0 0) := heap_alloc_new _ _
  generalize hW2 : W1.alloc (.cells #[.bool false, .slice none 0 0, .slice none 0 0, .slice none 0 0, .slice none 0 0] 32) = W2 at b2 n2
  have s2 : W2.heap.size = W1.heap.size + 1 := by rw [← hW2]; simp
  have b3 : Below W2.heap.size W2 (W2.alloc (.cells #[.bool false] 4)) := bel_new _ _
  have n3 : VarIs (W2.alloc (.cells #[.bool false] 4)) W2.heap.size (.bool false) 4 := heap_alloc_new _ _
  generalize hW3 : W2.alloc (.cells #[.bool false] 4) = W3 at b3 n3
  have s3 : W3.heap.size = W2.heap.size + 1 := by rw [← hW3]; simp
  have E3 : Hid (((w.alloc (.cells #[vp, vs] 37)).alloc (.cells #[.bool false, .slice none 0 0, .slice none 0 0, .slice none 0 0, .slice none 0 0] 32)).alloc (.cells #[.bool false] 4) = W3) := by
    show _ = _
    rw [hW1, hW2, hW3]
  rw [s1] at n2
  rw [s2, s1] at n3
  have B3 : Below w.heap.size w W3 := Below.and b1 (Below.and b2 b3)
  have x3 : BoxIs W3 (w.heap.size + 1) (.bool false) (.slice none 0 0) (.slice none 0 0) (.slice none 0 0) (.slice none 0 0) := n2.chg (Chg.of_below (F := fun _ => False) b3) id
  have hs3 : W3.heap.size = w.heap.size + 1 + 1 + 1 := by omega
  have HH : Hid _ := And.intro x3 (And.intro n3 (And.intro B3 (And.intro (hr.below B3) (he.below B3))))
  clear b1 n1 hW1 s1 b2 n2 hW2 s2 b3 n3 hW3 s3 B3 x3 hr he
  go_enter_defers Tryd.func8, Tryd.ntmps8
  go_wp2_with fail
  rw [E3.out]
  obtain ⟨x3, z3, B3, R3, e3⟩ := HH.out
  refine (treeAt_any ea vp l hz 7 (by omega) root 1 W3 (by omega) R3 e3).mono ?_
  rintro e w1 ⟨hn, hb⟩
  have x1 := x3.chg (Chg.of_below (F := fun _ => False) hb) id
  have z1 := z3.chg (Chg.of_below (F := fun _ => False) hb) id
  have e1 := e3.below hb
  have B1 : Below w.heap.size w w1 := Below.and B3 hb
  have hs1 : w.heap.size + 1 + 1 + 1 ≤ w1.heap.size := by have := hb.size; omega
  clear x3 z3 B3 R3 e3 HH E3
  cases hg : readR (pgB l) 7 root with
  | none =>
    rw [hg] at hn
    have hn' : e = .panicked (boom ea) := hn
    subst hn'
    clear hn
    have HG : Hid (readT l root = none) := by show _ = _; unfold readT; rw [hg]
    clear hg
    go_wp2
    refine leaves_cons (f := 22) (args := #[Value.pointer (some ⟨w.heap.size + 1, 0, none⟩), Value.pointer (some ⟨w.heap.size + 1 + 1, 0, none⟩)]) (by simp) (by simp [go_sem]) ?_
    refine (readTree_catch _ _ _ _ _ _ _ false ea _ x1 z1 (by omega)).mono ?_
    rintro e u' w2 ⟨rfl, rfl, x2, z2, ch⟩
    have B2 : Below w.heap.size w w2 := B1.trans (ch.below (fun g _ hg => by omega) B1.size)
    obtain ⟨q0, q1, q2, q3, q4⟩ := x2.cell
    rw [HG.out]
    simp [Leaves, settle, results, Tryd.results8, go_sem, q0, q1, q2, q3, q4, z2.cell, B2, ReadRd]
  | some T =>
    rw [hg] at hn
    obtain ⟨x, rfl, t1⟩ := hn
    obtain ⟨xl, xp, xc, xk, xb⟩ := x
    obtain ⟨⟨y1, k1, r1, hy1⟩, ⟨y2, k2, r2, hy2⟩, ⟨y3, k3, r3, hy3⟩, ⟨y4, k4, r4, hy4⟩, _⟩ := TreeD.slices t1
    simp only at hy1 hy2 hy3 hy4
    subst hy1 hy2 hy3 hy4
    have g5 := set5_chg w1 (w.heap.size + 1) (.bool xl) (.slice y1 k1 r1) (.slice y2 k2 r2) (.slice y3 k3 r3) (.slice y4 k4 r4)
    have x2 := x1.set (.bool xl) (.slice y1 k1 r1) (.slice y2 k2 r2) (.slice y3 k3 r3) (.slice y4 k4 r4)
    have z2 := z1.chg g5 (by omega)
    have e2 := e1.kept g5 (by omega)
    have t2 := t1.chg g5 (fun g hg => by have := hg.1; omega)
    have B2 := B1.trans (g5.below (fun g _ hg => by omega) B1.size)
    have hz5 : (set5 w1 (w.heap.size + 1) (.bool xl) (.slice y1 k1 r1) (.slice y2 k2 r2) (.slice y3 k3 r3) (.slice y4 k4 r4)).heap.size = w1.heap.size := by simp [set5]
    obtain ⟨u0, u1, u2, u3, u4⟩ := x1.cell
    have f1 := x1.live
    have I : Hid _ := And.intro x2 (And.intro z2 (And.intro e2 (And.intro t2 (And.intro B2 hz5))))
    have c2 := x2.cell
    unfold set5 at c2 I
    obtain ⟨v0, v1, v2, v3, v4⟩ := c2
    clear x1 z1 e1 B1 t1 g5 x2 z2 e2 t2 B2 hz5
    go_wp2_with fail
    generalize (((((w1.setCell ⟨w.heap.size + 1, 0, none⟩ (.bool xl)).setCell ⟨w.heap.size + 1, 1, none⟩ (.slice y1 k1 r1)).setCell ⟨w.heap.size + 1, 2, none⟩ (.slice y2 k2 r2)).setCell ⟨w.heap.size + 1, 3, none⟩ (.slice y3 k3 r3)).setCell ⟨w.heap.size + 1, 4, none⟩ (.slice y4 k4 r4)) = w2 at *
    clear u0 u1 u2 u3 u4 f1 v0 v1 v2 v3 v4
    refine (implTreeOk_any 7 ⟨xl, .slice y1 k1 r1, .slice y2 k2 r2, .slice y3 k3 r3, .slice y4 k4 r4⟩ T w2 I.out.2.2.2.1.treeAt).mono ?_
    rintro e w4 ⟨rfl, b4⟩
    obtain ⟨x2, z2, e2, t2, B2, hz2⟩ := I.out
    have x4 := x2.chg (Chg.of_below (F := fun _ => False) b4) id
    have z4 := z2.chg (Chg.of_below (F := fun _ => False) b4) id
    have e4 := e2.below b4
    have t4 := t2.below b4
    have B4 := Below.and B2 b4
    have hz4 := b4.size
    clear x2 z2 e2 t2 B2 I
    have J : Hid _ := And.intro x4 (And.intro z4 (And.intro e4 (And.intro t4 B4)))
    clear x4 z4 e4 t4 B4
    go_wp2_with fail
    by_cases hok : okT T = true
    · have HF : Hid (readT l root = some T) := by show _ = _; unfold readT; rw [hg]; simp [hok]
      refine (demand_yes hok _).mono ?_
      rintro e w5 ⟨rfl, rfl⟩
      obtain ⟨u0, u1, u2, u3, u4⟩ := J.out.1.cell
      have f1 := J.out.1.live
      have k3v := J.out.2.1.cell
      have f3 := J.out.2.1.live
      clear hok hg
      go_wp2
      refine leaves_cons (f := 22) (args := #[Value.pointer (some ⟨w.heap.size + 1, 0, none⟩), Value.pointer (some ⟨w.heap.size + 1 + 1, 0, none⟩)]) (by simp) (by simp [go_sem]) ?_
      refine (readTree_idle _ _ _).mono ?_
      rintro e u' w6 ⟨rfl, rfl, rfl⟩
      rw [HF.out]
      simp [Leaves, settle, results, Tryd.results8, go_sem, u0, u1, u2, u3, u4, k3v, ReadRd]
      have CF := ((((((Chg.refl (fun g => g = w.heap.size + 1 ∨ g = w.heap.size + 1 + 1) w4).setAt (w.heap.size + 1) 0 (.inl rfl) (.bool xl)).setAt (w.heap.size + 1) 1 (.inl rfl) (.slice y1 k1 r1)).setAt (w.heap.size + 1) 2 (.inl rfl) (.slice y2 k2 r2)).setAt (w.heap.size + 1) 3 (.inl rfl) (.slice y3 k3 r3)).setAt (w.heap.size + 1) 4 (.inl rfl) (.slice y4 k4 r4)).setAt (w.heap.size + 1 + 1) 0 (.inr rfl) (.bool true)
      refine ⟨⟨TV.mk xl (.slice y1 k1 r1) (.slice y2 k2 r2) (.slice y3 k3 r3) (.slice y4 k4 r4), by simp, ?_⟩, J.out.2.2.2.2.trans (CF.below (fun g _ hg => by omega) J.out.2.2.2.2.size)⟩
      exact (J.out.2.2.2.1.chg CF (fun g hg => by have := hg.1; omega)).mono (fun g hg => ⟨by have := hg.1; omega, by have := hg.2; omega⟩)
    · have hok' : okT T = false := by simpa using hok
      have HF : Hid (readT l root = none) := by show _ = _; unfold readT; rw [hg]; simp [hok]
      refine (demand_no hok' ea _ J.out.2.2.1).mono ?_
      rintro e w5 ⟨rfl, rfl⟩
      clear hok hok' hg
      go_wp2
      refine leaves_cons (f := 22) (args := #[Value.pointer (some ⟨w.heap.size + 1, 0, none⟩), Value.pointer (some ⟨w.heap.size + 1 + 1, 0, none⟩)]) (by simp) (by simp [go_sem]) ?_
      refine (readTree_catch _ _ _ _ _ _ _ false ea _ J.out.1 J.out.2.1 (by omega)).mono ?_
      rintro e u' w6 ⟨rfl, rfl, x6, z6, ch⟩
      have B6 : Below w.heap.size w w6 := J.out.2.2.2.2.trans (ch.below (fun g _ hg => by omega) J.out.2.2.2.2.size)
      obtain ⟨q0, q1, q2, q3, q4⟩ := x6.cell
      rw [HF.out]
      simp [Leaves, settle, results, Tryd.results8, go_sem, q0, q1, q2, q3, q4, z6.cell, B6, ReadRd]

end Go.Proofs.YtckphbmlmjlipaaDoor
