/-
  The program's reader: a node.
-/
import Derived.Test.YtckphbmlmjlipaaDoorFork
namespace Go.Proofs.YtckphbmlmjlipaaDoor
open Go.RowKit

/-- what a node tells -/
abbrev NodeV := List (Int × Int) ⊕ ForkV
def nodeN (bs : List Int) (at_ : Int) : Option (NodeV × Int) := match getN bs at_ with
  | none => none
  | some (x, p) => if x = 1 then (match leafN bs p with | none => none | some (l, q) => some (.inl l, q)) else if x = 0 then (match forkN bs p with | none => none | some (f, q) => some (.inr f, q)) else none
/-- a node in memory of its own: the tree's struct and the kids' row -/
def NodeAt (base : Nat) (w' : World) (vt vk : Value) : NodeV → Prop
  | .inl l => ∃ vp, vt = .agg #[.bool true, vp, .slice none 0 0, .slice none 0 0, .slice none 0 0] ∧ vk = .slice none 0 0 ∧ OwnE w' base 80 2 vp l.length (flatP l)
  | .inr f => ∃ (vc vb : Value) (M N : Nat), vt = .agg #[.bool false, .slice none 0 0, vc, .slice (some ⟨M, 0, none⟩) f.kids.length f.kids.length, vb] ∧ base ≤ N ∧ OwnI base w' vk f.kids ∧ (∀ g, vk.ownBlock = some g → g < N) ∧ OwnI N w' vc f.cuts ∧ OwnE w' N 83 3 vb f.buf.length (flatM f.buf) ∧
      N ≤ M ∧ w'.heap[M]? = some (.cells (madeCells #[.bool false, .slice none 0 0, .slice none 0 0, .slice none 0 0, .slice none 0 0] (f.kids.length * 5)) 32 (0, 0))
theorem NodeAt.chg {F : Nat → Prop} {base : Nat} {w w' : World} {vt vk : Value} {n : NodeV} (h : NodeAt base w vt vk n) (hc : Chg F w w') (hF : ∀ g, F g → g < base) : NodeAt base w' vt vk n := by
  cases n with
  | inl l =>
    obtain ⟨vp, h1, h2, h3⟩ := h
    exact ⟨vp, h1, h2, h3.chg hc (fun g hg e => by have := (h3.lt g hg).1; have := hF g e; omega)⟩
  | inr f =>
    obtain ⟨vc, vb, M, N, h1, h2, h3, h4, h5, h6, h7, h8⟩ := h
    refine ⟨vc, vb, M, N, h1, h2, owns_chg h3 hc (fun g hg e => ?_), h4, owns_chg h5 hc (fun g hg e => ?_), h6.chg hc (fun g hg e => ?_), h7, row_chg h8 hc (fun e => ?_)⟩
    · have := (World.ownsRow.lt h3 g hg).1; have := hF g e; omega
    · have := (World.ownsRow.lt h5 g hg).1; have := hF g e; omega
    · have := (h6.lt g hg).1; have := hF g e; omega
    · have := hF _ e; omega
theorem NodeAt.mono {base b' : Nat} {w : World} {vt vk : Value} {n : NodeV} (h : NodeAt base w vt vk n) (hb : b' ≤ base) : NodeAt b' w vt vk n := by
  cases n with
  | inl l =>
    obtain ⟨vp, h1, h2, h3⟩ := h
    exact ⟨vp, h1, h2, h3.mono hb⟩
  | inr f =>
    obtain ⟨vc, vb, M, N, h1, h2, h3, h4⟩ := h
    exact ⟨vc, vb, M, N, h1, Nat.le_trans hb h2, owns_mono h3 hb, h4⟩
theorem NodeAt.shape {base : Nat} {w : World} {vt vk : Value} {n : NodeV} (h : NodeAt base w vt vk n) : ∃ (b : Bool) (a1 a2 a3 a4 ak : Option Addr) (n1 n2 n3 n4 nk q1 q2 q3 q4 qk : Nat), vt = .agg #[.bool b, .slice a1 n1 q1, .slice a2 n2 q2, .slice a3 n3 q3, .slice a4 n4 q4] ∧ vk = .slice ak nk qk := by
  cases n with
  | inl l =>
    obtain ⟨vp, rfl, rfl, h3⟩ := h
    obtain ⟨a, q, rfl⟩ := h3.slice
    exact ⟨_, _, _, _, _, _, _, _, _, _, _, _, _, _, _, _, rfl, rfl⟩
  | inr f =>
    obtain ⟨vc, vb, M, N, rfl, h2, h3, h4, h5, h6, h7, h8⟩ := h
    obtain ⟨a, q, rfl⟩ := h6.slice
    obtain ⟨a2, q2, rfl, _⟩ := owns_shape h3
    obtain ⟨a3, q3, rfl, _⟩ := owns_shape h5
    exact ⟨_, _, _, _, _, _, _, _, _, _, _, _, _, _, _, _, rfl, rfl⟩
def NodePost (ea : Addr) (P : Nat) (base : Nat) (g : Option (NodeV × Int)) (e : Ending) (w' : World) : Prop := match g with
  | some (n, p) => ∃ vt vk, e = .returned (.tuple #[vt, vk]) ∧ NodeAt base w' vt vk n ∧ PlaceIs w' P p
  | none => e = .panicked (boom ea)

set_option maxRecDepth 100000 in
set_option maxHeartbeats 4000000 in
theorem node_any (ea : Addr) (v : Value) (bs : List Int) (P : Nat) (at_ : Int) (w : World) (h : Reads w v bs P at_ ea) :
    Calls Tryd.prog 64 #[.agg #[v, .pointer (some ⟨P, 0, none⟩)]] w fun e w' => NodePost ea P w.heap.size (nodeN bs at_) e w' ∧ Chg (fun g => g = P) w w' := by
  obtain ⟨av, bv, ov, cv, hv, _⟩ := id h.row
  have hPlt := h.place.lt
  have b1 : Below w.heap.size w (w.alloc (.cells #[v, .pointer (some ⟨P, 0, none⟩)] 108)) := bel_new _ _
  have n1 := heap_alloc_new w (.cells #[v, .pointer (some ⟨P, 0, none⟩)] 108)
  generalize hW1 : w.alloc (.cells #[v, .pointer (some ⟨P, 0, none⟩)] 108) = W1 at b1 n1
  have s1 : W1.heap.size = w.heap.size + 1 := by rw [← hW1]; simp
  have b2 : Below W1.heap.size W1 (W1.alloc (.cells #[.bool false, .slice none 0 0, .slice none 0 0, .slice none 0 0, .slice none 0 0] 32)) := bel_new _ _
  have n2 := heap_alloc_new W1 (.cells #[.bool false, .slice none 0 0, .slice none 0 0, .slice none 0 0, .slice none 0 0] 32)
  generalize hW2 : W1.alloc (.cells #[.bool false, .slice none 0 0, .slice none 0 0, .slice none 0 0, .slice none 0 0] 32) = W2 at b2 n2
  have s2 : W2.heap.size = W1.heap.size + 1 := by rw [← hW2]; simp
  have E2 : Hid ((w.alloc (.cells #[v, .pointer (some ⟨P, 0, none⟩)] 108)).alloc (.cells #[.bool false, .slice none 0 0, .slice none 0 0, .slice none 0 0, .slice none 0 0] 32) = W2) := by show _ = _; rw [hW1, hW2]
  rw [s1] at n2
  have B2 : Below w.heap.size w W2 := Below.and b1 b2
  have r2 : W2.heap[w.heap.size]? = some (Obj.cells #[v, .pointer (some ⟨P, 0, none⟩)] 108 (0, 0)) := (row_chg n1 (Chg.of_below (F := fun _ => False) b2) id)
  have hs2 : w.heap.size + 1 + 1 ≤ W2.heap.size := by omega
  have HW : Hid (Reads w v bs P at_ ea) := h
  have H0 : Hid _ := And.intro (h.below B2) (And.intro B2 (And.intro r2 n2))
  clear h b1 n1 hW1 s1 b2 n2 hW2 s2 B2 r2
  subst hv
  go_enter Tryd.func64, Tryd.ntmps64
  go_wp2_with fail
  rw [E2.out]
  refine (H0.out.1.num).mono ?_
  rintro e w3 ⟨hn, hc⟩
  cases hg : getN bs at_ with
  | none =>
    rw [hg] at hn
    have hn' : e = .panicked (boom ea) := hn
    subst hn'
    have G : Hid (nodeN bs at_ = none) := by show _ = _; unfold nodeN; rw [hg]
    have FIN : Hid (Chg (fun g => g = P) w w3) := (Chg.of_below (F := fun g => g = P) H0.out.2.1).trans hc (fun _ _ h => h)
    clear hn hg hc
    go_wp2
    rw [G.out]
    exact ⟨rfl, rfl, FIN.out⟩
  | some xp =>
    obtain ⟨x, p3⟩ := xp
    rw [hg] at hn
    obtain ⟨rfl, pl3⟩ := hn
    have H3 : Hid (Reads w3 (.slice av bs.length cv) bs P p3 ea ∧ w3.heap[w.heap.size]? = some (Obj.cells #[.slice av bs.length cv, .pointer (some ⟨P, 0, none⟩)] 108 (0, 0)) ∧ w3.heap[w.heap.size + 1]? = some (Obj.cells #[.bool false, .slice none 0 0, .slice none 0 0, .slice none 0 0, .slice none 0 0] 32 (0, 0)) ∧ Chg (fun g => g = P) w w3) :=
      ⟨H0.out.1.next hc pl3, row_chg H0.out.2.2.1 hc (by omega), row_chg H0.out.2.2.2 hc (by omega), (Chg.of_below (F := fun g => g = P) H0.out.2.1).trans hc (fun _ _ h => h)⟩
    have hs3 : w.heap.size + 1 + 1 ≤ w3.heap.size := Nat.le_trans hs2 hc.size
    have c30 : w3.cell? ⟨w.heap.size, 0, none⟩ = some (.slice av bs.length cv) := by rw [cell_of_cells H3.out.2.1]; rfl
    have c31 : w3.cell? ⟨w.heap.size, 1, none⟩ = some (.pointer (some ⟨P, 0, none⟩)) := by rw [cell_of_cells H3.out.2.1]; rfl
    have HG : Hid _ := hg
    clear hg hc H0 E2 pl3 hs2
    by_cases h1 : x = 1
    · subst h1
      go_wp2_with fail
      refine (leaf_any ea _ bs P p3 w3 H3.out.1).mono ?_
      rintro e w4 ⟨hn, hc⟩
      cases hg : leafN bs p3 with
      | none =>
        rw [hg] at hn
        have hn' : e = .panicked (boom ea) := hn
        subst hn'
        have G : Hid (nodeN bs at_ = none) := by show _ = _; unfold nodeN; rw [HG.out]; simp [hg]
        have FIN : Hid (Chg (fun g => g = P) w w4) := H3.out.2.2.2.trans hc (fun _ _ h => h)
        clear hn hg hc
        go_wp2
        rw [G.out]
        exact ⟨rfl, rfl, FIN.out⟩
      | some lq =>
        obtain ⟨l, q⟩ := lq
        rw [hg] at hn
        obtain ⟨vp, rfl, o4, pl4⟩ := hn
        obtain ⟨ap, qp, rfl⟩ := o4.slice
        have G : Hid (nodeN bs at_ = some (.inl l, q)) := by show _ = _; unfold nodeN; rw [HG.out]; simp [hg]
        have N4 : NodeAt w3.heap.size w4 (.agg #[.bool true, .slice ap l.length qp, .slice none 0 0, .slice none 0 0, .slice none 0 0]) (.slice none 0 0) (.inl l) := ⟨_, rfl, rfl, o4⟩
        have z4 : w4.heap[w.heap.size + 1]? = some (Obj.cells #[.bool false, .slice none 0 0, .slice none 0 0, .slice none 0 0, .slice none 0 0] 32 (0, 0)) := row_chg H3.out.2.2.1 hc (by omega)
        have C4 : Chg (fun g => g = P) w w4 := H3.out.2.2.2.trans hc (fun _ _ h => h)
        have k1 : ∀ i, w4.cell? ⟨w.heap.size + 1, i, none⟩ = #[Value.bool false, .slice none 0 0, .slice none 0 0, .slice none 0 0, .slice none 0 0][i]? := fun i => cell_of_cells z4
        have f1 : ∀ i, w4.frozen? ⟨w.heap.size + 1, i, none⟩ = false := fun i => frozen_of_cells z4
        have I : Hid _ := And.intro N4 (And.intro pl4 (And.intro z4 C4))
        clear hg hc o4 N4 pl4 z4 C4 c30 c31
        go_wp2
        have hS5 := set5_at (.bool true) (.slice ap l.length qp) (.slice none 0 0) (.slice none 0 0) (.slice none 0 0) I.out.2.2.1
        have hC5 := set5_chg w4 (w.heap.size + 1) (.bool true) (.slice ap l.length qp) (.slice none 0 0) (.slice none 0 0) (.slice none 0 0)
        unfold set5 at hS5 hC5
        generalize (((((w4.setCell ⟨w.heap.size + 1, 0, none⟩ (.bool true)).setCell ⟨w.heap.size + 1, 1, none⟩ (.slice ap l.length qp)).setCell ⟨w.heap.size + 1, 2, none⟩ (.slice none 0 0)).setCell ⟨w.heap.size + 1, 3, none⟩ (.slice none 0 0)).setCell ⟨w.heap.size + 1, 4, none⟩ (.slice none 0 0)) = WF at *
        have kk : ∀ i, WF.cell? ⟨w.heap.size + 1, i, none⟩ = #[Value.bool true, .slice ap l.length qp, .slice none 0 0, .slice none 0 0, .slice none 0 0][i]? := fun i => cell_of_cells hS5
        refine bodyPost_ret (v := .tuple #[.agg #[.bool true, .slice ap l.length qp, .slice none 0 0, .slice none 0 0, .slice none 0 0], .slice none 0 0]) (by simp [results, Tryd.results64, go_sem, kk]) rfl ?_
        rw [G.out]
        refine ⟨⟨_, _, rfl, (I.out.1.chg hC5 (fun g e => by omega)).mono (by omega), ?_⟩, I.out.2.2.2.trans hC5 (fun g hg e => by omega)⟩
        unfold PlaceIs
        rw [hC5.block P I.out.2.1.lt (by omega)]
        exact I.out.2.1
    · by_cases h0 : x = 0
      · subst h0
        go_wp2_with fail
        refine (fork_any ea _ bs P p3 w3 H3.out.1).mono ?_
        rintro e w4 ⟨hn, hc⟩
        cases hg : forkN bs p3 with
        | none =>
          rw [hg] at hn
          have hn' : e = .panicked (boom ea) := hn
          subst hn'
          have G : Hid (nodeN bs at_ = none) := by show _ = _; unfold nodeN; rw [HG.out]; simp [hg]
          have FIN : Hid (Chg (fun g => g = P) w w4) := H3.out.2.2.2.trans hc (fun _ _ h => h)
          clear hn hg hc
          go_wp2
          rw [G.out]
          exact ⟨rfl, rfl, FIN.out⟩
        | some lq =>
          obtain ⟨f, q⟩ := lq
          rw [hg] at hn
          obtain ⟨vc, vb, vk, M, N, rfl, hN, o1, o2, o3, o4, hM, o5, pl4⟩ := hn
          have N4 : NodeAt w3.heap.size w4 (.agg #[.bool false, .slice none 0 0, vc, .slice (some ⟨M, 0, none⟩) f.kids.length f.kids.length, vb]) vk (.inr f) := ⟨_, _, _, _, rfl, hN, o1, o2, o3, o4, hM, o5⟩
          obtain ⟨ab, qb, rfl⟩ := o4.slice
          obtain ⟨ak, qk, rfl, _⟩ := owns_shape o1
          obtain ⟨ac, qc, rfl, _⟩ := owns_shape o3
          have G : Hid (nodeN bs at_ = some (.inr f, q)) := by show _ = _; unfold nodeN; rw [HG.out]; simp [hg]
          have z4 : w4.heap[w.heap.size + 1]? = some (Obj.cells #[.bool false, .slice none 0 0, .slice none 0 0, .slice none 0 0, .slice none 0 0] 32 (0, 0)) := row_chg H3.out.2.2.1 hc (by omega)
          have C4 : Chg (fun g => g = P) w w4 := H3.out.2.2.2.trans hc (fun _ _ h => h)
          have k1 : ∀ i, w4.cell? ⟨w.heap.size + 1, i, none⟩ = #[Value.bool false, .slice none 0 0, .slice none 0 0, .slice none 0 0, .slice none 0 0][i]? := fun i => cell_of_cells z4
          have f1 : ∀ i, w4.frozen? ⟨w.heap.size + 1, i, none⟩ = false := fun i => frozen_of_cells z4
          have I : Hid _ := And.intro N4 (And.intro pl4 (And.intro z4 C4))
          clear hg hc o1 o2 o3 o4 o5 N4 pl4 z4 C4 c30 c31 hM hN
          generalize f.kids.length = nk at *
          generalize f.cuts.length = nc at *
          generalize f.buf.length = nb at *
          go_wp2
          have hS5 := set5_at (.bool false) (.slice none 0 0) (.slice ac nc qc) (.slice (some ⟨M, 0, none⟩) nk nk) (.slice ab nb qb) I.out.2.2.1
          have hC5 := set5_chg w4 (w.heap.size + 1) (.bool false) (.slice none 0 0) (.slice ac nc qc) (.slice (some ⟨M, 0, none⟩) nk nk) (.slice ab nb qb)
          unfold set5 at hS5 hC5
          generalize (((((w4.setCell ⟨w.heap.size + 1, 0, none⟩ (.bool false)).setCell ⟨w.heap.size + 1, 1, none⟩ (.slice none 0 0)).setCell ⟨w.heap.size + 1, 2, none⟩ (.slice ac nc qc)).setCell ⟨w.heap.size + 1, 3, none⟩ (.slice (some ⟨M, 0, none⟩) nk nk)).setCell ⟨w.heap.size + 1, 4, none⟩ (.slice ab nb qb)) = WF at *
          have kk : ∀ i, WF.cell? ⟨w.heap.size + 1, i, none⟩ = #[Value.bool false, .slice none 0 0, .slice ac nc qc, .slice (some ⟨M, 0, none⟩) nk nk, .slice ab nb qb][i]? := fun i => cell_of_cells hS5
          refine bodyPost_ret (v := .tuple #[.agg #[.bool false, .slice none 0 0, .slice ac nc qc, .slice (some ⟨M, 0, none⟩) nk nk, .slice ab nb qb], .slice ak nk qk]) (by simp [results, Tryd.results64, go_sem, kk]) rfl ?_
          rw [G.out]
          refine ⟨⟨_, _, rfl, (I.out.1.chg hC5 (fun g e => by omega)).mono (by omega), ?_⟩, I.out.2.2.2.trans hC5 (fun g hg e => by omega)⟩
          unfold PlaceIs
          rw [hC5.block P I.out.2.1.lt (by omega)]
          exact I.out.2.1
      · have G : Hid (nodeN bs at_ = none) := by show _ = _; unfold nodeN; rw [HG.out]; simp [h1, h0]
        have FIN : Hid (Chg (fun g => g = P) w w3) := H3.out.2.2.2
        have ge : w3.cell? ⟨0, 0, none⟩ = some (.iface 121 (.pointer (some ea))) := H3.out.1.err
        go_wp2
        rw [G.out]
        exact ⟨rfl, rfl, FIN.out⟩

end Go.Proofs.YtckphbmlmjlipaaDoor
