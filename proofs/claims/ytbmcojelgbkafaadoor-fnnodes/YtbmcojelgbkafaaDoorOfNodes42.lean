/-
  The program's reader: a node.
  The program's GetNode: a mistake is a panic that it recovers.
-/
import Derived.Test.YtbmcojelgbkafaaDoorOfNodes41
import Derived.Test.YtbmcojelgbkafaaDoorOfNodes37
namespace Go.Proofs.YtbmcojelgbkafaaDoor
set_option maxRecDepth 100000
set_option maxHeartbeats 8000000
section
open Go.RowKit

abbrev NodeV := List (Int × Int) ⊕ ForkV
def nodeN (bs : List Int) (at_ : Int) : Option (NodeV × Int) := match getN bs at_ with
 | none => none
 | some (x, p) => if x = 1 then (match leafN bs p with | none => none | some (l, q) => some (.inl l, q)) else if x = 0 then (match forkN bs p with | none => none | some (f, q) => some (.inr f, q)) else none
def NodeAt (base : Nat) (w' : World) (vt vk : Value) : NodeV → Prop
 | .inl l => ∃ vp, vt = .agg #[.bool true, vp, .slice none 0 0, .slice none 0 0, .slice none 0 0] ∧ vk = .slice none 0 0 ∧ OwnE w' base 52 2 vp l.length (flatP l)
 | .inr f => ∃ (vc vb : Value) (M N : Nat), vt = .agg #[.bool false, .slice none 0 0, vc, .slice (some ⟨M, 0, none⟩) f.kids.length f.kids.length, vb] ∧ base ≤ N ∧ OwnI base w' vk f.kids ∧ (∀ g, vk.ownBlock = some g → g < N) ∧ OwnI N w' vc f.cuts ∧ OwnE w' N 54 3 vb f.buf.length (flatM f.buf) ∧
   N ≤ M ∧ w'.heap[M]? = some (.cells (madeCells #[.bool false, .slice none 0 0, .slice none 0 0, .slice none 0 0, .slice none 0 0] (f.kids.length * 5)) 29 (0, 0))
theorem NodeAt.chg {F : Nat → Prop} {base : Nat} {w w' : World} {vt vk : Value} {n : NodeV} (h : NodeAt base w vt vk n) (hc : Chg F w w') (hF : ∀ g, F g → g < base) : NodeAt base w' vt vk n := by
 cases n with
 | inl l =>
  obtain ⟨vp, h1, h2, h3⟩ := h
  exact ⟨vp, h1, h2, h3.chg hc (fun g hg e => by have := (h3.lt g hg).1; have := hF g e; omega)⟩
 | inr f =>
  obtain ⟨vc, vb, M, N, h1, h2, h3, h4, h5, h6, h7, h8⟩ := h
  refine ⟨vc, vb, M, N, h1, h2, owns_chg h3 hc (fun g hg e => ?_), h4, owns_chg h5 hc (fun g hg e => ?_), h6.chg hc (fun g hg e => ?_), h7, row_chg h8 hc (fun e => ?_)⟩
  ·have := (World.ownsRow.lt h3 g hg).1; have := hF g e; omega
  ·have := (World.ownsRow.lt h5 g hg).1; have := hF g e; omega
  ·have := (h6.lt g hg).1; have := hF g e; omega
  ·have := hF _ e; omega
theorem NodeAt.mono {base b' : Nat} {w : World} {vt vk : Value} {n : NodeV} (h : NodeAt base w vt vk n) (hb : b' ≤ base) : NodeAt b' w vt vk n := by
 cases n with
 | inl l =>
  obtain ⟨vp, h1, h2, h3⟩ := h
  exact ⟨vp, h1, h2, h3.mono hb⟩
 | inr f =>
  obtain ⟨vc, vb, M, N, h1, h2, h3, h4⟩ := h
  exact ⟨vc, vb, M, N, h1, Nat.le_trans hb h2, owns_mono h3 hb, h4⟩
theorem NodeAt.shape {base : Nat} {w : World} {vt vk : Value} {n : NodeV} (h : NodeAt base w vt vk n) : ∃ (b : Bool) (a1 a2 a3 a4 ak : Option Addr) (n1 n2 n3 n4 nk q1 q2 q3 q4 qk : Nat), vt = .agg #[.bool b, .slice a1 n1 q1, .slice a2 n2 q2, .slice a3 n3 q3, .slice a4 n4 q4] ∧ vk = .slice ak nk qk := by
 cases n with
 | inl l =>
  obtain ⟨vp, rfl, rfl, h3⟩ := h
  obtain ⟨a, q, rfl⟩ := h3.slice
  exact ⟨_, _, _, _, _, _, _, _, _, _, _, _, _, _, _, _, rfl, rfl⟩
 | inr f =>
  obtain ⟨vc, vb, M, N, rfl, h2, h3, h4, h5, h6, h7, h8⟩ := h
  obtain ⟨a, q, rfl⟩ := h6.slice
  obtain ⟨a2, q2, rfl, _⟩ := owns_shape h3
  obtain ⟨a3, q3, rfl, _⟩ := owns_shape h5
  exact ⟨_, _, _, _, _, _, _, _, _, _, _, _, _, _, _, _, rfl, rfl⟩
def NodePost (ea : Addr) (P : Nat) (base : Nat) (g : Option (NodeV × Int)) (e : Ending) (w' : World) : Prop := match g with
 | some (n, p) => ∃ vt vk, e = .returned (.tuple #[vt, vk]) ∧ NodeAt base w' vt vk n ∧ PlaceIs w' P p
 | none => e = .panicked (boom ea)

theorem node_any (ea : Addr) (v : Value) (bs : List Int) (P : Nat) (at_ : Int) (w : World) (h : Reads w v bs P at_ ea) :
  Calls Tryd.prog 22 #[.agg #[v, .pointer (some ⟨P, 0, none⟩)]] w fun e w' => NodePost ea P w.heap.size (nodeN bs at_) e w' ∧ Chg (fun g => g = P) w w' := by
 obtain ⟨av, bv, ov, cv, hv, _⟩ := id h.row
 have hPlt := h.place.lt
 have b1 : Below w.heap.size w (w.alloc (.cells #[v, .pointer (some ⟨P, 0, none⟩)] 48)) := bel_new _ _
 have n1 := heap_alloc_new w (.cells #[v, .pointer (some ⟨P, 0, none⟩)] 48)
 generalize hW1 : w.alloc (.cells #[v, .pointer (some ⟨P, 0, none⟩)] 48) = W1 at b1 n1
 have s1 : W1.heap.size = w.heap.size + 1 := by rw [← hW1]; simp
 have b2 : Below W1.heap.size W1 (W1.alloc (.cells #[.bool false, .slice none 0 0, .slice none 0 0, .slice none 0 0, .slice none 0 0] 29)) := bel_new _ _
 have n2 := heap_alloc_new W1 (.cells #[.bool false, .slice none 0 0, .slice none 0 0, .slice none 0 0, .slice none 0 0] 29)
 generalize hW2 : W1.alloc (.cells #[.bool false, .slice none 0 0, .slice none 0 0, .slice none 0 0, .slice none 0 0] 29) = W2 at b2 n2
 have s2 : W2.heap.size = W1.heap.size + 1 := by rw [← hW2]; simp
 have E2 : Hid ((w.alloc (.cells #[v, .pointer (some ⟨P, 0, none⟩)] 48)).alloc (.cells #[.bool false, .slice none 0 0, .slice none 0 0, .slice none 0 0, .slice none 0 0] 29) = W2) := by show _ = _; rw [hW1, hW2]
 rw [s1] at n2
 have B2 : Below w.heap.size w W2 := Below.and b1 b2
 have r2 : W2.heap[w.heap.size]? = some (Obj.cells #[v, .pointer (some ⟨P, 0, none⟩)] 48 (0, 0)) := (row_chg n1 (Chg.of_below (F := fun _ => False) b2) id)
 have hs2 : w.heap.size + 1 + 1 ≤ W2.heap.size := by omega
 have HW : Hid (Reads w v bs P at_ ea) := h
 have H0 : Hid _ := And.intro (h.below B2) (And.intro B2 (And.intro r2 n2))
 clear h b1 n1 hW1 s1 b2 n2 hW2 s2 B2 r2
 subst hv
 go_enter Tryd.func22, Tryd.ntmps22
 go_wp2_with fail
 rw [E2.out]
 refine (H0.out.1.num).mono ?_
 rintro e w3 ⟨hn, hc⟩
 cases hg : getN bs at_ with
 | none =>
  rw [hg] at hn
  have hn' : e = .panicked (boom ea) := hn
  subst hn'
  have G : Hid (nodeN bs at_ = none) := by show _ = _; unfold nodeN; rw [hg]
  have FIN : Hid (Chg (fun g => g = P) w w3) := (Chg.of_below (F := fun g => g = P) H0.out.2.1).trans hc (fun _ _ h => h)
  clear hn hg hc
  go_wp2
  rw [G.out]
  exact ⟨rfl, rfl, FIN.out⟩
 | some xp =>
  obtain ⟨x, p3⟩ := xp
  rw [hg] at hn
  obtain ⟨rfl, pl3⟩ := hn
  have H3 : Hid (Reads w3 (.slice av bs.length cv) bs P p3 ea ∧ w3.heap[w.heap.size]? = some (Obj.cells #[.slice av bs.length cv, .pointer (some ⟨P, 0, none⟩)] 48 (0, 0)) ∧ w3.heap[w.heap.size + 1]? = some (Obj.cells #[.bool false, .slice none 0 0, .slice none 0 0, .slice none 0 0, .slice none 0 0] 29 (0, 0)) ∧ Chg (fun g => g = P) w w3) :=
   ⟨H0.out.1.next hc pl3, row_chg H0.out.2.2.1 hc (by omega), row_chg H0.out.2.2.2 hc (by omega), (Chg.of_below (F := fun g => g = P) H0.out.2.1).trans hc (fun _ _ h => h)⟩
  have hs3 : w.heap.size + 1 + 1 ≤ w3.heap.size := Nat.le_trans hs2 hc.size
  have c30 : w3.cell? ⟨w.heap.size, 0, none⟩ = some (.slice av bs.length cv) := by rw [cell_of_cells H3.out.2.1]; rfl
  have c31 : w3.cell? ⟨w.heap.size, 1, none⟩ = some (.pointer (some ⟨P, 0, none⟩)) := by rw [cell_of_cells H3.out.2.1]; rfl
  have HG : Hid _ := hg
  clear hg hc H0 E2 pl3 hs2
  by_cases h1 : x = 1
  ·subst h1
   go_wp2_with fail
   refine (leaf_any ea _ bs P p3 w3 H3.out.1).mono ?_
   rintro e w4 ⟨hn, hc⟩
   cases hg : leafN bs p3 with
   | none =>
    rw [hg] at hn
    have hn' : e = .panicked (boom ea) := hn
    subst hn'
    have G : Hid (nodeN bs at_ = none) := by show _ = _; unfold nodeN; rw [HG.out]; simp [hg]
    have FIN : Hid (Chg (fun g => g = P) w w4) := H3.out.2.2.2.trans hc (fun _ _ h => h)
    clear hn hg hc
    go_wp2
    rw [G.out]
    exact ⟨rfl, rfl, FIN.out⟩
   | some lq =>
    obtain ⟨l, q⟩ := lq
    rw [hg] at hn
    obtain ⟨vp, rfl, o4, pl4⟩ := hn
    obtain ⟨ap, qp, rfl⟩ := o4.slice
    have G : Hid (nodeN bs at_ = some (.inl l, q)) := by show _ = _; unfold nodeN; rw [HG.out]; simp [hg]
    have N4 : NodeAt w3.heap.size w4 (.agg #[.bool true, .slice ap l.length qp, .slice none 0 0, .slice none 0 0, .slice none 0 0]) (.slice none 0 0) (.inl l) := ⟨_, rfl, rfl, o4⟩
    have z4 : w4.heap[w.heap.size + 1]? = some (Obj.cells #[.bool false, .slice none 0 0, .slice none 0 0, .slice none 0 0, .slice none 0 0] 29 (0, 0)) := row_chg H3.out.2.2.1 hc (by omega)
    have C4 : Chg (fun g => g = P) w w4 := H3.out.2.2.2.trans hc (fun _ _ h => h)
    have k1 : ∀ i, w4.cell? ⟨w.heap.size + 1, i, none⟩ = #[Value.bool false, .slice none 0 0, .slice none 0 0, .slice none 0 0, .slice none 0 0][i]? := fun i => cell_of_cells z4
    have f1 : ∀ i, w4.frozen? ⟨w.heap.size + 1, i, none⟩ = false := fun i => frozen_of_cells z4
    have I : Hid _ := And.intro N4 (And.intro pl4 (And.intro z4 C4))
    clear hg hc o4 N4 pl4 z4 C4 c30 c31
    go_wp2
    have hS5 := sef5_at (.bool true) (.slice ap l.length qp) (.slice none 0 0) (.slice none 0 0) (.slice none 0 0) I.out.2.2.1
    have hC5 := sef5_chg w4 (w.heap.size + 1) (.bool true) (.slice ap l.length qp) (.slice none 0 0) (.slice none 0 0) (.slice none 0 0)
    unfold sef5 at hS5 hC5
    generalize (((((w4.setCell ⟨w.heap.size + 1, 0, none⟩ (.bool true)).setCell ⟨w.heap.size + 1, 1, none⟩ (.slice ap l.length qp)).setCell ⟨w.heap.size + 1, 2, none⟩ (.slice none 0 0)).setCell ⟨w.heap.size + 1, 3, none⟩ (.slice none 0 0)).setCell ⟨w.heap.size + 1, 4, none⟩ (.slice none 0 0)) = WF at *
    have kk : ∀ i, WF.cell? ⟨w.heap.size + 1, i, none⟩ = #[Value.bool true, .slice ap l.length qp, .slice none 0 0, .slice none 0 0, .slice none 0 0][i]? := fun i => cell_of_cells hS5
    refine bodyPost_ret (v := .tuple #[.agg #[.bool true, .slice ap l.length qp, .slice none 0 0, .slice none 0 0, .slice none 0 0], .slice none 0 0]) (by simp [results, Tryd.results22, go_sem, kk]) rfl ?_
    rw [G.out]
    refine ⟨⟨_, _, rfl, (I.out.1.chg hC5 (fun g e => by omega)).mono (by omega), ?_⟩, I.out.2.2.2.trans hC5 (fun g hg e => by omega)⟩
    unfold PlaceIs
    rw [hC5.block P I.out.2.1.lt (by omega)]
    exact I.out.2.1
  ·by_cases h0 : x = 0
   ·subst h0
    go_wp2_with fail
    refine (fork_any ea _ bs P p3 w3 H3.out.1).mono ?_
    rintro e w4 ⟨hn, hc⟩
    cases hg : forkN bs p3 with
    | none =>
     rw [hg] at hn
     have hn' : e = .panicked (boom ea) := hn
     subst hn'
     have G : Hid (nodeN bs at_ = none) := by show _ = _; unfold nodeN; rw [HG.out]; simp [hg]
     have FIN : Hid (Chg (fun g => g = P) w w4) := H3.out.2.2.2.trans hc (fun _ _ h => h)
     clear hn hg hc
     go_wp2
     rw [G.out]
     exact ⟨rfl, rfl, FIN.out⟩
    | some lq =>
     obtain ⟨f, q⟩ := lq
     rw [hg] at hn
     obtain ⟨vc, vb, vk, M, N, rfl, hN, o1, o2, o3, o4, hM, o5, pl4⟩ := hn
     have N4 : NodeAt w3.heap.size w4 (.agg #[.bool false, .slice none 0 0, vc, .slice (some ⟨M, 0, none⟩) f.kids.length f.kids.length, vb]) vk (.inr f) := ⟨_, _, _, _, rfl, hN, o1, o2, o3, o4, hM, o5⟩
     obtain ⟨ab, qb, rfl⟩ := o4.slice
     obtain ⟨ak, qk, rfl, _⟩ := owns_shape o1
     obtain ⟨ac, qc, rfl, _⟩ := owns_shape o3
     have G : Hid (nodeN bs at_ = some (.inr f, q)) := by show _ = _; unfold nodeN; rw [HG.out]; simp [hg]
     have z4 : w4.heap[w.heap.size + 1]? = some (Obj.cells #[.bool false, .slice none 0 0, .slice none 0 0, .slice none 0 0, .slice none 0 0] 29 (0, 0)) := row_chg H3.out.2.2.1 hc (by omega)
     have C4 : Chg (fun g => g = P) w w4 := H3.out.2.2.2.trans hc (fun _ _ h => h)
     have k1 : ∀ i, w4.cell? ⟨w.heap.size + 1, i, none⟩ = #[Value.bool false, .slice none 0 0, .slice none 0 0, .slice none 0 0, .slice none 0 0][i]? := fun i => cell_of_cells z4
     have f1 : ∀ i, w4.frozen? ⟨w.heap.size + 1, i, none⟩ = false := fun i => frozen_of_cells z4
     have I : Hid _ := And.intro N4 (And.intro pl4 (And.intro z4 C4))
     clear hg hc o1 o2 o3 o4 o5 N4 pl4 z4 C4 c30 c31 hM hN
     generalize f.kids.length = nk at *
     generalize f.cuts.length = nc at *
     generalize f.buf.length = nb at *
     go_wp2
     have hS5 := sef5_at (.bool false) (.slice none 0 0) (.slice ac nc qc) (.slice (some ⟨M, 0, none⟩) nk nk) (.slice ab nb qb) I.out.2.2.1
     have hC5 := sef5_chg w4 (w.heap.size + 1) (.bool false) (.slice none 0 0) (.slice ac nc qc) (.slice (some ⟨M, 0, none⟩) nk nk) (.slice ab nb qb)
     unfold sef5 at hS5 hC5
     generalize (((((w4.setCell ⟨w.heap.size + 1, 0, none⟩ (.bool false)).setCell ⟨w.heap.size + 1, 1, none⟩ (.slice none 0 0)).setCell ⟨w.heap.size + 1, 2, none⟩ (.slice ac nc qc)).setCell ⟨w.heap.size + 1, 3, none⟩ (.slice (some ⟨M, 0, none⟩) nk nk)).setCell ⟨w.heap.size + 1, 4, none⟩ (.slice ab nb qb)) = WF at *
     have kk : ∀ i, WF.cell? ⟨w.heap.size + 1, i, none⟩ = #[Value.bool false, .slice none 0 0, .slice ac nc qc, .slice (some ⟨M, 0, none⟩) nk nk, .slice ab nb qb][i]? := fun i => cell_of_cells hS5
     refine bodyPost_ret (v := .tuple #[.agg #[.bool false, .slice none 0 0, .slice ac nc qc, .slice (some ⟨M, 0, none⟩) nk nk, .slice ab nb qb], .slice ak nk qk]) (by simp [results, Tryd.results22, go_sem, kk]) rfl ?_
     rw [G.out]
     refine ⟨⟨_, _, rfl, (I.out.1.chg hC5 (fun g e => by omega)).mono (by omega), ?_⟩, I.out.2.2.2.trans hC5 (fun g hg e => by omega)⟩
     unfold PlaceIs
     rw [hC5.block P I.out.2.1.lt (by omega)]
     exact I.out.2.1
   ·have G : Hid (nodeN bs at_ = none) := by show _ = _; unfold nodeN; rw [HG.out]; simp [h1, h0]
    have FIN : Hid (Chg (fun g => g = P) w w3) := H3.out.2.2.2
    have ge : w3.cell? ⟨0, 0, none⟩ = some (.iface 114 (.pointer (some ea))) := H3.out.1.err
    go_wp2
    rw [G.out]
    exact ⟨rfl, rfl, FIN.out⟩
end
section
open Go.RowKit

def BoxIs (w : World) (a : Nat) (x0 x1 x2 x3 x4 : Value) : Prop := w.heap[a]? = some (.cells #[x0, x1, x2, x3, x4] 29 (0, 0))
theorem BoxIs.cell {w : World} {a : Nat} {x0 x1 x2 x3 x4 : Value} (h : BoxIs w a x0 x1 x2 x3 x4) : w.cell? ⟨a, 0, none⟩ = some x0 ∧ w.cell? ⟨a, 1, none⟩ = some x1 ∧ w.cell? ⟨a, 2, none⟩ = some x2 ∧ w.cell? ⟨a, 3, none⟩ = some x3 ∧ w.cell? ⟨a, 4, none⟩ = some x4 := by
 refine ⟨?_, ?_, ?_, ?_, ?_⟩ <;> (rw [cell_of_cells h]; rfl)
theorem BoxIs.live {w : World} {a : Nat} {x0 x1 x2 x3 x4 : Value} (h : BoxIs w a x0 x1 x2 x3 x4) (j : Nat) : w.frozen? ⟨a, j, none⟩ = false := frozen_of_cells h
theorem BoxIs.chg {F : Nat → Prop} {w w' : World} {a : Nat} {x0 x1 x2 x3 x4 : Value} (h : BoxIs w a x0 x1 x2 x3 x4) (hc : Chg F w w') (hF : ¬ F a) : BoxIs w' a x0 x1 x2 x3 x4 := row_chg h hc hF
theorem BoxIs.set {w : World} {a : Nat} {x0 x1 x2 x3 x4 : Value} (h : BoxIs w a x0 x1 x2 x3 x4) (y0 y1 y2 y3 y4 : Value) : BoxIs (sef5 w a y0 y1 y2 y3 y4) a y0 y1 y2 y3 y4 := sef5_at _ _ _ _ _ h

theorem getNode_catch (a b c : Nat) (x0 x1 x2 x3 x4 y : Value) (z : Bool) (ea : Addr) (w : World) (ha : BoxIs w a x0 x1 x2 x3 x4) (hb : VarIs w b y 25) (hc : VarIs w c (.bool z) 4) (hab : a ≠ b) (hac : a ≠ c) (hbc : b ≠ c) :
  CallsD Tryd.prog 21 #[.pointer (some ⟨a, 0, none⟩), .pointer (some ⟨b, 0, none⟩), .pointer (some ⟨c, 0, none⟩)] (.panicking (boom ea)) w fun e u' w' =>
   e = .returned (.tuple #[]) ∧ u' = .panicking [{ v := ErrV ea, recovered := true }] ∧ BoxIs w' a (.bool false) (.slice none 0 0) (.slice none 0 0) (.slice none 0 0) (.slice none 0 0) ∧ VarIs w' b (.slice none 0 0) 25 ∧ VarIs w' c (.bool false) 4 ∧ Chg (fun g => g = a ∨ g = b ∨ g = c) w w' := by
 obtain ⟨e10, e11, e12, e13, e14⟩ := ha.cell
 have f1 := ha.live
 have s1 := sef5_chg w a (.bool false) (.slice none 0 0) (.slice none 0 0) (.slice none 0 0) (.slice none 0 0)
 have a1 := ha.set (.bool false) (.slice none 0 0) (.slice none 0 0) (.slice none 0 0) (.slice none 0 0)
 have hb1 : VarIs (sef5 w a (.bool false) (.slice none 0 0) (.slice none 0 0) (.slice none 0 0) (.slice none 0 0)) b y 25 := hb.chg s1 (by omega)
 have hc1 : VarIs (sef5 w a (.bool false) (.slice none 0 0) (.slice none 0 0) (.slice none 0 0) (.slice none 0 0)) c (.bool z) 4 := hc.chg s1 (by omega)
 have e2 := hb1.cell
 have f2 := hb1.live
 have hc2 := hc1.setOther (.slice none 0 0) hbc
 have e3 := hc2.cell
 have f3 := hc2.live
 have FIN : Hid (BoxIs (((sef5 w a (.bool false) (.slice none 0 0) (.slice none 0 0) (.slice none 0 0) (.slice none 0 0)).setCell ⟨b, 0, none⟩ (.slice none 0 0)).setCell ⟨c, 0, none⟩ (.bool false)) a (.bool false) (.slice none 0 0) (.slice none 0 0) (.slice none 0 0) (.slice none 0 0) ∧ VarIs (((sef5 w a (.bool false) (.slice none 0 0) (.slice none 0 0) (.slice none 0 0) (.slice none 0 0)).setCell ⟨b, 0, none⟩ (.slice none 0 0)).setCell ⟨c, 0, none⟩ (.bool false)) b (.slice none 0 0) 25 ∧ VarIs (((sef5 w a (.bool false) (.slice none 0 0) (.slice none 0 0) (.slice none 0 0) (.slice none 0 0)).setCell ⟨b, 0, none⟩ (.slice none 0 0)).setCell ⟨c, 0, none⟩ (.bool false)) c (.bool false) 4 ∧ Chg (fun g => g = a ∨ g = b ∨ g = c) w (((sef5 w a (.bool false) (.slice none 0 0) (.slice none 0 0) (.slice none 0 0) (.slice none 0 0)).setCell ⟨b, 0, none⟩ (.slice none 0 0)).setCell ⟨c, 0, none⟩ (.bool false))) :=
  ⟨(a1.chg ((Chg.refl (fun g => g = b) _).setAt b 0 rfl (.slice none 0 0)) hab).chg ((Chg.refl (fun g => g = c) _).setAt c 0 rfl (.bool false)) hac, (hb1.set _).setOther _ hbc.symm, hc2.set _,
   (((Chg.refl (fun g => g = a ∨ g = b ∨ g = c) w).trans s1 (fun _ _ h => .inl h)).setAt b 0 (.inr (.inl rfl)) _).setAt c 0 (.inr (.inr rfl)) _⟩
 unfold sef5 at e2 f2 e3 f3 FIN
 clear s1 a1 hb1 hc1 hc2 ha hb hc
 refine callsD_of_wpS Tryd.func21 rfl fun c₀ cs hu => ?_
 unfold boom ErrV at hu
 apply wpS_seq
 apply wpS_region
 simp [wpOpsS, go_sem, recoverD, hu, Tryd.ntmps21, Exit.thenS]
 refine wpS_cond (t := true) (by simp [Act.eval, Array.replicate]) ?_
 simp only [if_true]
 apply wpS_region
 simp [wpOpsS, go_sem, e10, e11, e12, e13, e14, f1, e2, f2, e3, f3, bodyPostS, results, Tryd.results21]
 exact ⟨rfl, FIN.out⟩

theorem getNode_idle (p q r : Value) (w : World) :
  CallsD Tryd.prog 21 #[p, q, r] .returning w fun e u' w' => e = .returned (.tuple #[]) ∧ u' = .returning ∧ w' = w := by
 refine callsD_of_wpS Tryd.func21 rfl fun c₀ cs hu => ?_
 apply wpS_seq
 apply wpS_region
 simp [wpOpsS, go_sem, recoverD, hu, Tryd.ntmps21, Exit.thenS]
 refine wpS_cond (t := false) (by simp [Act.eval, Array.replicate]) ?_
 simp only [Bool.false_eq_true, if_false]
 refine wpS_of_wp (wp_skip ?_)
 cases c₀
 simp_all [bodyPostS, results, Tryd.results21]

theorem ErrIs.kept {F : Nat → Prop} {ea : Addr} {w w' : World} (h : ErrIs ea w) (hc : Chg F w w') (hF : ¬ F 0) : ErrIs ea w' := cell_kept (b := 0) (o := 0) h hc hF
def getNodeF (bs : List Int) : Option NodeV := match nodeN bs 0 with
 | none => none
 | some (n, p) => if p = (bs.length : Int) then some n else none
def GetNodePost (base : Nat) (g : Option NodeV) (e : Ending) (w' : World) : Prop := match g with
 | some n => ∃ vt vk, e = .returned (.tuple #[vt, vk, .bool true]) ∧ NodeAt base w' vt vk n
 | none => e = .returned (.tuple #[treeZ, .slice none 0 0, .bool false])

theorem implGetNode_any (ea : Addr) (v : Value) (bs : List Int) (w : World) (hr : Row w v bs.length (flatB bs)) (hbs : inByte bs) (he : ErrIs ea w) :
  Calls Tryd.prog 8 #[v] w fun e w' => GetNodePost w.heap.size (getNodeF bs) e w' ∧ Below w.heap.size w w' := by
 have hmf : ∀ (fn : Fn) (first cap : Array Value) (w : World), (Instr.makeFunc fn first cap).run Tryd.prog w = .ok (.func fn first cap) w := fun _ _ _ _ => rfl
 obtain ⟨av, bv, ov, cv, hv, _⟩ := id hr
 have h00 : 0 < w.heap.size := cell_lt he
 have b1 : Below w.heap.size w (w.alloc (.cells #[.bool false, .slice none 0 0, .slice none 0 0, .slice none 0 0, .slice none 0 0] 29)) := bel_new _ _
 have n1 : BoxIs (w.alloc (.cells #[.bool false, .slice none 0 0, .slice none 0 0, .slice none 0 0, .slice none 0 0] 29)) w.heap.size (.bool false) (.slice none 0 0) (.slice none 0 0) (.slice none 0 0) (.slice none 0 0) := heap_alloc_new _ _
 generalize hW1 : w.alloc (.cells #[.bool false, .slice none 0 0, .slice none 0 0, .slice none 0 0, .slice none 0 0] 29) = W1 at b1 n1
 have s1 : W1.heap.size = w.heap.size + 1 := by rw [← hW1]; simp
 have b2 : Below W1.heap.size W1 (W1.alloc (.cells #[.slice none 0 0] 25)) := bel_new _ _
 have n2 : VarIs (W1.alloc (.cells #[.slice none 0 0] 25)) W1.heap.size (.slice none 0 0) 25 := heap_alloc_new _ _
 generalize hW2 : W1.alloc (.cells #[.slice none 0 0] 25) = W2 at b2 n2
 have s2 : W2.heap.size = W1.heap.size + 1 := by rw [← hW2]; simp
 have b3 : Below W2.heap.size W2 (W2.alloc (.cells #[.bool false] 4)) := bel_new _ _
 have n3 : VarIs (W2.alloc (.cells #[.bool false] 4)) W2.heap.size (.bool false) 4 := heap_alloc_new _ _
 generalize hW3 : W2.alloc (.cells #[.bool false] 4) = W3 at b3 n3
 have s3 : W3.heap.size = W2.heap.size + 1 := by rw [← hW3]; simp
 have b4 : Below W3.heap.size W3 (W3.alloc (.cells #[.int .i64 0] 3)) := bel_new _ _
 have n4 : PlaceIs (W3.alloc (.cells #[.int .i64 0] 3)) W3.heap.size 0 := heap_alloc_new _ _
 generalize hW4 : W3.alloc (.cells #[.int .i64 0] 3) = W4 at b4 n4
 have s4 : W4.heap.size = W3.heap.size + 1 := by rw [← hW4]; simp
 have b5 : Below W4.heap.size W4 (W4.alloc (.cells #[v, .pointer (some ⟨w.heap.size + 1 + 1 + 1, 0, none⟩)] 48)) := bel_new _ _
 generalize hW5 : W4.alloc (.cells #[v, .pointer (some ⟨w.heap.size + 1 + 1 + 1, 0, none⟩)] 48) = W5 at b5
 have s5 : W5.heap.size = W4.heap.size + 1 := by rw [← hW5]; simp
 have E5 : Hid (((((w.alloc (.cells #[.bool false, .slice none 0 0, .slice none 0 0, .slice none 0 0, .slice none 0 0] 29)).alloc (.cells #[.slice none 0 0] 25)).alloc (.cells #[.bool false] 4)).alloc (.cells #[.int .i64 0] 3)).alloc (.cells #[v, .pointer (some ⟨w.heap.size + 1 + 1 + 1, 0, none⟩)] 48) = W5) := by
  show _ = _
  rw [hW1, hW2, hW3, hW4, hW5]
 rw [s1] at n2
 rw [s2, s1] at n3
 rw [s3, s2, s1] at n4
 have B5 : Below w.heap.size w W5 := Below.and b1 (Below.and b2 (Below.and b3 (Below.and b4 b5)))
 have p5 : PlaceIs W5 (w.heap.size + 1 + 1 + 1) 0 := n4.below b5
 have R5 : Reads W5 v bs (w.heap.size + 1 + 1 + 1) 0 ea := ⟨hr.below B5, hbs, p5, he.below B5, by omega⟩
 have x5 : BoxIs W5 w.heap.size (.bool false) (.slice none 0 0) (.slice none 0 0) (.slice none 0 0) (.slice none 0 0) := n1.chg (Chg.of_below (F := fun _ => False) (Below.and b2 (Below.and b3 (Below.and b4 b5)))) id
 have y5 : VarIs W5 (w.heap.size + 1) (.slice none 0 0) 25 := n2.chg (Chg.of_below (F := fun _ => False) (Below.and b3 (Below.and b4 b5))) id
 have z5 : VarIs W5 (w.heap.size + 1 + 1) (.bool false) 4 := n3.chg (Chg.of_below (F := fun _ => False) (Below.and b4 b5)) id
 have hs5 : w.heap.size + 1 + 1 + 1 + 1 ≤ W5.heap.size := by omega
 have HH : Hid _ := And.intro R5 (And.intro x5 (And.intro y5 (And.intro z5 B5)))
 clear b1 n1 hW1 s1 b2 n2 hW2 s2 b3 n3 hW3 s3 b4 n4 hW4 s4 b5 hW5 s5 B5 R5 p5 x5 y5 z5 hr he
 subst hv
 go_enter_defers Tryd.func8, Tryd.ntmps8
 go_wp2_with fail
 rw [E5.out]
 obtain ⟨R5, x5, y5, z5, B5⟩ := HH.out
 refine (node_any ea _ bs (w.heap.size + 1 + 1 + 1) 0 W5 R5).mono ?_
 rintro e w1 ⟨hn, hc⟩
 have x1 := x5.chg hc (by show ¬ _ = _; omega)
 have y1 := y5.chg hc (by show ¬ _ = _; omega)
 have z1 := z5.chg hc (by show ¬ _ = _; omega)
 have e1 : ErrIs ea w1 := R5.err.apart hc (by omega)
 have B1 : Below w.heap.size w w1 := B5.trans (hc.below (fun g _ hg => by omega) B5.size)
 clear R5 x5 y5 z5 B5 hc HH E5
 cases hg : nodeN bs 0 with
 | none =>
  rw [hg] at hn
  have hn' : e = .panicked (boom ea) := hn
  subst hn'
  clear hn
  have HG : Hid (getNodeF bs = none) := by show _ = _; unfold getNodeF; rw [hg]
  clear hg
  go_wp2
  refine leaves_cons (f := 21) (args := #[Value.pointer (some ⟨w.heap.size, 0, none⟩), Value.pointer (some ⟨w.heap.size + 1, 0, none⟩), Value.pointer (some ⟨w.heap.size + 1 + 1, 0, none⟩)]) (by simp) (by simp [go_sem]) ?_
  refine (getNode_catch _ _ _ _ _ _ _ _ _ false ea _ x1 y1 z1 (by omega) (by omega) (by omega)).mono ?_
  rintro e u' w2 ⟨rfl, rfl, x2, y2, z2, ch⟩
  have B2 : Below w.heap.size w w2 := B1.trans (ch.below (fun g _ hg => by omega) B1.size)
  obtain ⟨q0, q1, q2, q3, q4⟩ := x2.cell
  rw [HG.out]
  simp [Leaves, settle, results, Tryd.results8, go_sem, q0, q1, q2, q3, q4, y2.cell, z2.cell, B2, GetNodePost]
 | some xp =>
  obtain ⟨n, p⟩ := xp
  rw [hg] at hn
  obtain ⟨vt, vk, rfl, N1, p1⟩ := hn
  obtain ⟨t0, a1, a2, a3, a4, ak, m1, m2, m3, m4, mk, q1, q2, q3, q4, qk, rfl, rfl⟩ := N1.shape
  have s1 := sef5_chg w1 w.heap.size (.bool t0) (.slice a1 m1 q1) (.slice a2 m2 q2) (.slice a3 m3 q3) (.slice a4 m4 q4)
  have x2 := x1.set (.bool t0) (.slice a1 m1 q1) (.slice a2 m2 q2) (.slice a3 m3 q3) (.slice a4 m4 q4)
  have y2 := (y1.chg s1 (by omega))
  have s2 : Chg (fun g => g = w.heap.size ∨ g = w.heap.size + 1) w1 ((sef5 w1 w.heap.size (.bool t0) (.slice a1 m1 q1) (.slice a2 m2 q2) (.slice a3 m3 q3) (.slice a4 m4 q4)).setCell ⟨w.heap.size + 1, 0, none⟩ (.slice ak mk qk)) := ((Chg.refl (fun g => g = w.heap.size ∨ g = w.heap.size + 1) w1).trans s1 (fun _ _ h => .inl h)).setAt (w.heap.size + 1) 0 (.inr rfl) _
  have x3 := x2.chg ((Chg.refl (fun g => g = w.heap.size + 1) _).setAt (w.heap.size + 1) 0 rfl (.slice ak mk qk)) (by omega)
  have y3 := y2.set (.slice ak mk qk)
  have z3 := z1.chg s2 (by omega)
  have N3 := N1.chg s2 (fun g hg => by omega)
  have p3 : PlaceIs ((sef5 w1 w.heap.size (.bool t0) (.slice a1 m1 q1) (.slice a2 m2 q2) (.slice a3 m3 q3) (.slice a4 m4 q4)).setCell ⟨w.heap.size + 1, 0, none⟩ (.slice ak mk qk)) (w.heap.size + 1 + 1 + 1) p := by
   unfold PlaceIs
   rw [s2.block _ p1.lt (by omega)]
   exact p1
  have e3 : ErrIs ea ((sef5 w1 w.heap.size (.bool t0) (.slice a1 m1 q1) (.slice a2 m2 q2) (.slice a3 m3 q3) (.slice a4 m4 q4)).setCell ⟨w.heap.size + 1, 0, none⟩ (.slice ak mk qk)) := e1.kept s2 (by omega)
  have B3 : Below w.heap.size w ((sef5 w1 w.heap.size (.bool t0) (.slice a1 m1 q1) (.slice a2 m2 q2) (.slice a3 m3 q3) (.slice a4 m4 q4)).setCell ⟨w.heap.size + 1, 0, none⟩ (.slice ak mk qk)) := B1.trans (s2.below (fun g _ hg => by omega) B1.size)
  unfold sef5 at x3 y3 z3 N3 p3 e3 B3
  obtain ⟨u0, u1, u2, u3, u4⟩ := x1.cell
  have f1 := x1.live
  have k2 := y2.cell
  have f2 := y2.live
  unfold sef5 at k2 f2
  have I : Hid _ := And.intro x3 (And.intro y3 (And.intro z3 (And.intro N3 (And.intro p3 (And.intro e3 B3)))))
  have HG : Hid _ := hg
  clear hg x1 y1 z1 e1 B1 N1 p1 s1 x2 y2 s2 x3 y3 z3 N3 p3 e3 B3
  have C5 := I.out.2.2.2.2.1
  have c5 : ((((((w1.setCell ⟨w.heap.size, 0, none⟩ (.bool t0)).setCell ⟨w.heap.size, 1, none⟩ (.slice a1 m1 q1)).setCell ⟨w.heap.size, 2, none⟩ (.slice a2 m2 q2)).setCell ⟨w.heap.size, 3, none⟩ (.slice a3 m3 q3)).setCell ⟨w.heap.size, 4, none⟩ (.slice a4 m4 q4)).setCell ⟨w.heap.size + 1, 0, none⟩ (.slice ak mk qk)).cell? ⟨w.heap.size + 1 + 1 + 1, 0, none⟩ = some (.int .i64 p) := by rw [cell_of_cells C5]; rfl
  clear C5
  go_wp2_with fail
  generalize ((((((w1.setCell ⟨w.heap.size, 0, none⟩ (.bool t0)).setCell ⟨w.heap.size, 1, none⟩ (.slice a1 m1 q1)).setCell ⟨w.heap.size, 2, none⟩ (.slice a2 m2 q2)).setCell ⟨w.heap.size, 3, none⟩ (.slice a3 m3 q3)).setCell ⟨w.heap.size, 4, none⟩ (.slice a4 m4 q4)).setCell ⟨w.heap.size + 1, 0, none⟩ (.slice ak mk qk)) = w3 at *
  clear u0 u1 u2 u3 u4 f1 k2 f2 c5
  by_cases hp : p = (bs.length : Int)
  ·have HF : Hid (getNodeF bs = some n) := by show _ = _; unfold getNodeF; rw [HG.out]; simp [hp]
   refine (demand_yes (by simp [hp]) _).mono ?_
   rintro e w4 ⟨rfl, rfl⟩
   obtain ⟨u0, u1, u2, u3, u4⟩ := I.out.1.cell
   have f1 := I.out.1.live
   have k2 := I.out.2.1.cell
   have f2 := I.out.2.1.live
   have k3 := I.out.2.2.1.cell
   have f3 := I.out.2.2.1.live
   go_wp2_with fail
   go_region
   all_goals
    go_wp2
    refine leaves_cons (f := 21) (args := #[Value.pointer (some ⟨w.heap.size, 0, none⟩), Value.pointer (some ⟨w.heap.size + 1, 0, none⟩), Value.pointer (some ⟨w.heap.size + 1 + 1, 0, none⟩)]) (by simp) (by simp [go_sem]) ?_
    refine (getNode_idle _ _ _ _).mono ?_
    rintro e u' w2 ⟨rfl, rfl, rfl⟩
    rw [HF.out]
    simp [Leaves, settle, results, Tryd.results8, go_sem, u0, u1, u2, u3, u4, k2, k3, GetNodePost]
    have CF := ((((((((Chg.refl (fun g => g = w.heap.size ∨ g = w.heap.size + 1 ∨ g = w.heap.size + 1 + 1) w3).setAt w.heap.size 0 (.inl rfl) (.bool t0)).setAt w.heap.size 1 (.inl rfl) (.slice a1 m1 q1)).setAt w.heap.size 2 (.inl rfl) (.slice a2 m2 q2)).setAt w.heap.size 3 (.inl rfl) (.slice a3 m3 q3)).setAt w.heap.size 4 (.inl rfl) (.slice a4 m4 q4)).setAt (w.heap.size + 1) 0 (.inr (.inl rfl)) (.slice ak mk qk)).setAt (w.heap.size + 1 + 1) 0 (.inr (.inr rfl)) (.bool true)).drew
    exact ⟨⟨_, _, ⟨rfl, rfl⟩, (I.out.2.2.2.1.chg CF (fun g hg => by omega)).mono (by omega)⟩, I.out.2.2.2.2.2.2.trans (CF.below (fun g _ hg => by omega) I.out.2.2.2.2.2.2.size)⟩
  ·have HF : Hid (getNodeF bs = none) := by show _ = _; unfold getNodeF; rw [HG.out]; simp [hp]
   refine (demand_no (by simp [hp]) ea _ I.out.2.2.2.2.2.1).mono ?_
   rintro e w4 ⟨rfl, rfl⟩
   go_wp2
   refine leaves_cons (f := 21) (args := #[Value.pointer (some ⟨w.heap.size, 0, none⟩), Value.pointer (some ⟨w.heap.size + 1, 0, none⟩), Value.pointer (some ⟨w.heap.size + 1 + 1, 0, none⟩)]) (by simp) (by simp [go_sem]) ?_
   refine (getNode_catch _ _ _ _ _ _ _ _ _ false ea _ I.out.1 I.out.2.1 I.out.2.2.1 (by omega) (by omega) (by omega)).mono ?_
   rintro e u' w2 ⟨rfl, rfl, x2, y2, z2, ch⟩
   have B2 : Below w.heap.size w w2 := I.out.2.2.2.2.2.2.trans (ch.below (fun g _ hg => by omega) I.out.2.2.2.2.2.2.size)
   obtain ⟨q0, q1, q2, q3, q4⟩ := x2.cell
   rw [HF.out]
   simp [Leaves, settle, results, Tryd.results8, go_sem, q0, q1, q2, q3, q4, y2.cell, z2.cell, B2, GetNodePost]
end
end Go.Proofs.YtbmcojelgbkafaaDoor
