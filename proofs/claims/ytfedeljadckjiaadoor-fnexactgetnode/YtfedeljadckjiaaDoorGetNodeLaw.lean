/-
  The walk of the law FnExactGetNode.
-/
import Derived.Test.YtfedeljadckjiaaDoorGetNode
import Derived.Test.YtfedeljadckjiaaDoorMarkB
import Derived.Test.YtfedeljadckjiaaDoorToByte
import Derived.Test.YtfedeljadckjiaaDoorByteM
namespace Go.Proofs.YtfedeljadckjiaaDoor
open Go.RowKit

/-- what is asked of the model's GetNode -/
def SpecGets : Prop := ∀ (v : Value) (l : List Int) (u : World), Row u v l.length (flatB l) → inByte l → l.length ≤ 1099511627776 →
  Calls Tryd.prog 17 #[v] u fun e w' => (∃ (x : TV) (vk : Value), e = .returned (.tuple #[x.val, vk, .bool (getNodeF l).isSome]) ∧ TreeAt 2 w' x (treeG (getNodeF l)) ∧ Row w' vk (kidsG (getNodeF l)).length (flatI (kidsG (getNodeF l)))) ∧ Below u.heap.size u w'
theorem GetNodePost.split {base : Nat} {g : Option NodeV} {e : Ending} {w' : World} (h : GetNodePost base g e w') (hok : ∀ n, g = some n → okV n) : ∃ (vt vk : Value), e = .returned (.tuple #[vt, vk, .bool g.isSome]) ∧ AnsV base w' vt vk g := by
  cases g with
  | some n =>
    obtain ⟨vt, vk, h1, h2⟩ := h
    exact ⟨vt, vk, h1, h2, hok n rfl⟩
  | none => exact ⟨_, _, h, rfl, rfl⟩

theorem AnsV.tree' {base : Nat} {w : World} {x : TV} {vk : Value} {g : Option NodeV} (h : AnsV base w x.val vk g) : TreeAt 2 w x (treeG g) ∧ Row w vk (kidsG g).length (flatI (kidsG g)) := by
  obtain ⟨⟨x', e, t⟩, k⟩ := h.tree
  have : x = x' := by
    obtain ⟨a1, a2, a3, a4, a5⟩ := x
    obtain ⟨b1, b2, b3, b4, b5⟩ := x'
    simp [TV.val] at e
    obtain ⟨rfl, rfl, rfl, rfl, rfl⟩ := e
    rfl
  subst this
  exact ⟨t, k⟩

set_option maxRecDepth 100000 in
set_option maxHeartbeats 4000000 in
theorem fnExactGetNode_of (SPEC : SpecGets) (ea : Addr) (v : Value) (l : List Int) (w : World) (h : Row w v l.length (flatB l)) (hl : inByte l) (he : ErrIs ea w) :
    Calls Tryd.prog 7 #[v] w fun e w' => e = .returned (.bool true) ∧ Below w.heap.size w w' := by
  obtain ⟨a, q, hv, hq⟩ := h.len
  subst hv
  unfold maxLen at hq
  have RA : Hid (∀ u, Below w.heap.size w u → Row u (.slice a l.length q) l.length (flatB l) ∧ ErrIs ea u) := fun u hu => ⟨h.below hu, he.below hu⟩
  clear h he
  by_cases hbig : (1048576 : Int) < l.length
  · go_enter Tryd.func7, Tryd.ntmps7
    go_wp2
    go_ret
    exact ⟨rfl, Below.refl _ _⟩
  have HOK : Hid (∀ n, getNodeF l = some n → okV n) := fun n hn => (getNodeF_put hl hn).2.2
  have SP : Hid (∀ v u, Row u v l.length (flatB l) → Calls Tryd.prog 17 #[v] u fun e w' => (∃ (x : TV) (vk : Value), e = .returned (.tuple #[x.val, vk, .bool (getNodeF l).isSome]) ∧ TreeAt 2 w' x (treeG (getNodeF l)) ∧ Row w' vk (kidsG (getNodeF l)).length (flatI (kidsG (getNodeF l)))) ∧ Below u.heap.size u w') := fun v u hu => SPEC v l u hu hl (by omega)
  have IM : Hid (∀ v u, Row u v l.length (flatB l) → ErrIs ea u → Calls Tryd.prog 12 #[v] u fun e w' => (∃ (vt vk : Value), e = .returned (.tuple #[vt, vk, .bool (getNodeF l).isSome]) ∧ AnsV u.heap.size w' vt vk (getNodeF l)) ∧ Below u.heap.size u w') := fun v u hu he => (implGetNode_any ea v l u hu hl he).mono (fun e w' h => ⟨h.1.split HOK.out, h.2⟩)
  clear HOK
  generalize getNodeF l = g at *
  generalize hsm : g.isSome = sm at *
  clear hsm
  have hbl : l.length ≤ 1048576 := by omega
  go_enter Tryd.func7, Tryd.ntmps7
  go_wp2_with fail
  refine (toByteS_any _ l w (RA.out w (Below.refl _ _)).1 hbl).mono ?_
  rintro e w1 ⟨v1, rfl, o1, b1⟩
  have R1 := Row.of_owns o1
  have B1 : Hid (Below w.heap.size w w1) := b1
  clear o1 b1
  go_wp2_with fail
  refine (SP.out v1 w1 R1).mono ?_
  rintro e w2 ⟨⟨x, vk, rfl, T2, K2⟩, b2⟩
  obtain ⟨p1, p2, p3, p4, y1, y2, y3, y4, hx⟩ := T2.shape
  obtain ⟨ak, qk, hvk, _⟩ := K2.len
  subst hx
  subst hvk
  have SPR : Hid (∀ u, Below w2.heap.size w2 u → TreeAt 2 u (⟨(treeG g).leaf, .slice p1 (treeG g).pairs.length y1, .slice p2 (treeG g).cuts.length y2, .slice p3 (treeG g).kids.length y3, .slice p4 (treeG g).buf.length y4⟩ : TV) (treeG g) ∧ Row u (.slice ak (kidsG g).length qk) (kidsG g).length (flatI (kidsG g))) := fun u hu => ⟨T2.below hu, K2.below hu⟩
  have BW2 : Hid (Below w.heap.size w w2) := Below.and B1.out b2
  clear T2 K2 b2 B1 R1 SP SPEC
  have KH : Hid (treeG g = treeG g ∧ kidsG g = kidsG g) := ⟨rfl, rfl⟩
  generalize hT : treeG g = T at *
  generalize hK : kidsG g = ks at *
  have HTK : Hid (treeG g = T ∧ kidsG g = ks) := ⟨hT, hK⟩
  clear hT hK KH
  have Z3 : Hid (BoxIs (w2.alloc (.cells #[.bool T.leaf, .slice p1 T.pairs.length y1, .slice p2 T.cuts.length y2, .slice p3 T.kids.length y3, .slice p4 T.buf.length y4] 29)) w2.heap.size (.bool T.leaf) (.slice p1 T.pairs.length y1) (.slice p2 T.cuts.length y2) (.slice p3 T.kids.length y3) (.slice p4 T.buf.length y4)) := heap_alloc_new _ _
  have BW3 : Hid (Below w2.heap.size w2 (w2.alloc (.cells #[.bool T.leaf, .slice p1 T.pairs.length y1, .slice p2 T.cuts.length y2, .slice p3 T.kids.length y3, .slice p4 T.buf.length y4] 29))) := bel_new _ _
  have s3 : (w2.alloc (.cells #[.bool T.leaf, .slice p1 T.pairs.length y1, .slice p2 T.cuts.length y2, .slice p3 T.kids.length y3, .slice p4 T.buf.length y4] 29)).heap.size = w2.heap.size + 1 := by simp
  go_wp2_with fail
  generalize hB3 : w2.heap.size = B3 at *
  generalize w2.alloc (.cells #[.bool T.leaf, .slice p1 T.pairs.length y1, .slice p2 T.cuts.length y2, .slice p3 T.kids.length y3, .slice p4 T.buf.length y4] 29) = W2 at *
  refine (toByteS_any _ l W2 (RA.out _ (Below.and BW2.out (by rw [hB3]; exact BW3.out))).1 hbl).mono ?_
  rintro e w3 ⟨v3, rfl, o3, b3⟩
  obtain ⟨a3, q3, hv3, _, _⟩ := owns_shape o3
  subst hv3
  have L3 : ∀ g, (Value.slice a3 l.length q3).ownBlock = some g → W2.heap.size ≤ g ∧ g < w3.heap.size := fun g hg => o3.lt g hg
  have h23 : W2.heap.size ≤ w3.heap.size := b3.size
  have M3 : Hid (w3.ownsRow W2.heap.size 5 1 (.slice a3 l.length q3) l.length (flatB l) ∧ BoxIs w3 B3 (.bool T.leaf) (.slice p1 T.pairs.length y1) (.slice p2 T.cuts.length y2) (.slice p3 T.kids.length y3) (.slice p4 T.buf.length y4) ∧ Below B3 w2 w3 ∧ Below w.heap.size w w3 ∧ (∀ g, (Value.slice a3 l.length q3).ownBlock = some g → W2.heap.size ≤ g ∧ g < w3.heap.size)) :=
    ⟨o3, row_chg Z3.out (Chg.of_below (F := fun _ => False) b3) id, BW3.out.trans (b3.mono (by omega)), Below.and (BW2.out.trans (BW3.out.mono (by have := BW2.out.size; omega))) b3, L3⟩
  clear o3 b3 Z3 BW3 L3
  go_wp2_with fail
  refine (IM.out _ w3 (Row.of_owns M3.out.1) (RA.out _ M3.out.2.2.2.1).2).mono ?_
  rintro e w4 ⟨⟨vt, vk2, rfl, AN⟩, b4⟩
  obtain ⟨⟨x7, hx7, T7⟩, K7⟩ := AN.tree
  rw [HTK.out.1] at T7
  rw [HTK.out.2] at K7
  obtain ⟨r1, r2, r3, r4, z1, z2, z3, z4, hx7'⟩ := T7.shape
  obtain ⟨ak2, qk2, hvk2, _⟩ := K7.len
  subst hx7'
  subst hx7
  subst hvk2
  have E7 : (⟨T.leaf, .slice r1 T.pairs.length z1, .slice r2 T.cuts.length z2, .slice r3 T.kids.length z3, .slice r4 T.buf.length z4⟩ : TV).val = (.agg #[.bool T.leaf, .slice r1 T.pairs.length z1, .slice r2 T.cuts.length z2, .slice r3 T.kids.length z3, .slice r4 T.buf.length z4]) := rfl
  rw [E7] at AN ⊢
  clear E7 T7 K7
  have AB : Hid (AnsB w4.heap.size (.agg #[.bool T.leaf, .slice r1 T.pairs.length z1, .slice r2 T.cuts.length z2, .slice r3 T.kids.length z3, .slice r4 T.buf.length z4]) (.slice ak2 ks.length qk2) g) := AN.hi
  have h34 : w3.heap.size ≤ w4.heap.size := b4.size
  generalize hN2 : W2.heap.size = N2 at *
  generalize hN3 : w3.heap.size = N3 at *
  have M4 : Hid (Below w.heap.size w (w4.alloc (.cells #[.bool T.leaf, .slice r1 T.pairs.length z1, .slice r2 T.cuts.length z2, .slice r3 T.kids.length z3, .slice r4 T.buf.length z4] 29)) ∧ Below B3 w2 (w4.alloc (.cells #[.bool T.leaf, .slice r1 T.pairs.length z1, .slice r2 T.cuts.length z2, .slice r3 T.kids.length z3, .slice r4 T.buf.length z4] 29)) ∧ BoxIs (w4.alloc (.cells #[.bool T.leaf, .slice r1 T.pairs.length z1, .slice r2 T.cuts.length z2, .slice r3 T.kids.length z3, .slice r4 T.buf.length z4] 29)) B3 (.bool T.leaf) (.slice p1 T.pairs.length y1) (.slice p2 T.cuts.length y2) (.slice p3 T.kids.length y3) (.slice p4 T.buf.length y4) ∧ BoxIs (w4.alloc (.cells #[.bool T.leaf, .slice r1 T.pairs.length z1, .slice r2 T.cuts.length z2, .slice r3 T.kids.length z3, .slice r4 T.buf.length z4] 29)) w4.heap.size (.bool T.leaf) (.slice r1 T.pairs.length z1) (.slice r2 T.cuts.length z2) (.slice r3 T.kids.length z3) (.slice r4 T.buf.length z4) ∧ AnsV N3 (w4.alloc (.cells #[.bool T.leaf, .slice r1 T.pairs.length z1, .slice r2 T.cuts.length z2, .slice r3 T.kids.length z3, .slice r4 T.buf.length z4] 29)) (.agg #[.bool T.leaf, .slice r1 T.pairs.length z1, .slice r2 T.cuts.length z2, .slice r3 T.kids.length z3, .slice r4 T.buf.length z4]) (.slice ak2 ks.length qk2) g ∧ (w4.alloc (.cells #[.bool T.leaf, .slice r1 T.pairs.length z1, .slice r2 T.cuts.length z2, .slice r3 T.kids.length z3, .slice r4 T.buf.length z4] 29)).ownsRow N2 5 1 (.slice a3 l.length q3) l.length (flatB l)) := by
    have bb : Below w3.heap.size w3 (w4.alloc (.cells #[.bool T.leaf, .slice r1 T.pairs.length z1, .slice r2 T.cuts.length z2, .slice r3 T.kids.length z3, .slice r4 T.buf.length z4] 29)) := by rw [hN3]; exact b4.trans ((bel_new w4 _).mono (by omega))
    exact ⟨Below.and M3.out.2.2.2.1 bb, M3.out.2.2.1.trans (bb.mono (by omega)), row_chg M3.out.2.1 (Chg.of_below (F := fun _ => False) bb) id, heap_alloc_new _ _, AN.below (bel_new _ _), owns_below M3.out.1 bb⟩
  have c3' : BoxIs w4 B3 (.bool T.leaf) (.slice p1 T.pairs.length y1) (.slice p2 T.cuts.length y2) (.slice p3 T.kids.length y3) (.slice p4 T.buf.length y4) := row_chg M3.out.2.1 (Chg.of_below (F := fun _ => False) (by rw [hN3]; exact b4)) id
  obtain ⟨c0, c1, c2, c3, c4⟩ := c3'.cell
  clear c3'
  have hlt4 : B3 < w4.heap.size := by omega
  have hne : ¬ B3 = w4.heap.size := by omega
  have hne2 : ¬ w4.heap.size = B3 := by omega
  have V3 : Hid (∀ g, (Value.slice a3 l.length q3).ownBlock = some g → N2 ≤ g ∧ g < N3) := M3.out.2.2.2.2
  clear M3 AN b4
  go_wp2_with fail
  generalize hB7 : w4.heap.size = B7 at *
  generalize w4.alloc (.cells #[.bool T.leaf, .slice r1 T.pairs.length z1, .slice r2 T.cuts.length z2, .slice r3 T.kids.length z3, .slice r4 T.buf.length z4] 29) = W4 at *
  clear c0 c1 c2 c3 c4 hne hne2 hlt4
  have SPR' : Hid (∀ u, Below B3 w2 u → TreeAt 2 u ⟨T.leaf, .slice p1 T.pairs.length y1, .slice p2 T.cuts.length y2, .slice p3 T.kids.length y3, .slice p4 T.buf.length y4⟩ T ∧ Row u (.slice ak ks.length qk) ks.length (flatI ks)) := fun u hu => SPR.out u hu
  have TE : Hid (∀ u, AnsV N3 u (.agg #[.bool T.leaf, .slice r1 T.pairs.length z1, .slice r2 T.cuts.length z2, .slice r3 T.kids.length z3, .slice r4 T.buf.length z4]) (.slice ak2 ks.length qk2) g → TreeAt 2 u ⟨T.leaf, .slice r1 T.pairs.length z1, .slice r2 T.cuts.length z2, .slice r3 T.kids.length z3, .slice r4 T.buf.length z4⟩ T ∧ Row u (.slice ak2 ks.length qk2) ks.length (flatI ks)) := fun u hu => by
    have := AnsV.tree' (x := ⟨T.leaf, .slice r1 T.pairs.length z1, .slice r2 T.cuts.length z2, .slice r3 T.kids.length z3, .slice r4 T.buf.length z4⟩) hu
    rw [HTK.out.1, HTK.out.2] at this
    exact this
  clear SPR
  refine (eqTree_any 2 ⟨T.leaf, .slice r1 T.pairs.length z1, .slice r2 T.cuts.length z2, .slice r3 T.kids.length z3, .slice r4 T.buf.length z4⟩ ⟨T.leaf, .slice p1 T.pairs.length y1, .slice p2 T.cuts.length y2, .slice p3 T.kids.length y3, .slice p4 T.buf.length y4⟩ T W4 (TE.out W4 M4.out.2.2.2.2.1).1 (SPR'.out W4 M4.out.2.1).1).mono ?_
  rintro e w5 ⟨rfl, b5⟩
  have M5 : Hid (Below w.heap.size w w5 ∧ Below B3 w2 w5 ∧ BoxIs w5 B3 (.bool T.leaf) (.slice p1 T.pairs.length y1) (.slice p2 T.cuts.length y2) (.slice p3 T.kids.length y3) (.slice p4 T.buf.length y4) ∧ BoxIs w5 B7 (.bool T.leaf) (.slice r1 T.pairs.length z1) (.slice r2 T.cuts.length z2) (.slice r3 T.kids.length z3) (.slice r4 T.buf.length z4) ∧ AnsV N3 w5 (.agg #[.bool T.leaf, .slice r1 T.pairs.length z1, .slice r2 T.cuts.length z2, .slice r3 T.kids.length z3, .slice r4 T.buf.length z4]) (.slice ak2 ks.length qk2) g ∧ w5.ownsRow N2 5 1 (.slice a3 l.length q3) l.length (flatB l)) := ⟨Below.and M4.out.1 b5, M4.out.2.1.trans (b5.mono (by have := M4.out.2.1.size; omega)), row_chg M4.out.2.2.1 (Chg.of_below (F := fun _ => False) b5) id, row_chg M4.out.2.2.2.1 (Chg.of_below (F := fun _ => False) b5) id, M4.out.2.2.2.2.1.below b5, owns_below M4.out.2.2.2.2.2 b5⟩
  clear M4 b5
  go_wp2_with fail
  refine (eqIntS_any _ _ ks ks w5 (TE.out w5 M5.out.2.2.2.2.1).2 (SPR'.out w5 M5.out.2.1).2).mono ?_
  rintro e w6 ⟨rfl, b6⟩
  have M6 : Hid (Below w.heap.size w w6 ∧ Below B3 w2 w6 ∧ BoxIs w6 B3 (.bool T.leaf) (.slice p1 T.pairs.length y1) (.slice p2 T.cuts.length y2) (.slice p3 T.kids.length y3) (.slice p4 T.buf.length y4) ∧ BoxIs w6 B7 (.bool T.leaf) (.slice r1 T.pairs.length z1) (.slice r2 T.cuts.length z2) (.slice r3 T.kids.length z3) (.slice r4 T.buf.length z4) ∧ AnsV N3 w6 (.agg #[.bool T.leaf, .slice r1 T.pairs.length z1, .slice r2 T.cuts.length z2, .slice r3 T.kids.length z3, .slice r4 T.buf.length z4]) (.slice ak2 ks.length qk2) g ∧ w6.ownsRow N2 5 1 (.slice a3 l.length q3) l.length (flatB l)) := ⟨Below.and M5.out.1 b6, M5.out.2.1.trans (b6.mono (by have := M5.out.2.1.size; omega)), row_chg M5.out.2.2.1 (Chg.of_below (F := fun _ => False) b6) id, row_chg M5.out.2.2.2.1 (Chg.of_below (F := fun _ => False) b6) id, M5.out.2.2.2.2.1.below b6, owns_below M5.out.2.2.2.2.2 b6⟩
  rw [decide_eq_true (rfl : ks = ks)]
  clear M5 b6
  have hsm : (sm != sm) = false := by simp
  go_wp2_with fail
  refine (toByteS_any _ l w6 (RA.out _ M6.out.1).1 hbl).mono ?_
  rintro e w7 ⟨v7, rfl, o7, b7⟩
  have M7 : Hid (Below w.heap.size w w7 ∧ Below B3 w2 w7 ∧ BoxIs w7 B3 (.bool T.leaf) (.slice p1 T.pairs.length y1) (.slice p2 T.cuts.length y2) (.slice p3 T.kids.length y3) (.slice p4 T.buf.length y4) ∧ BoxIs w7 B7 (.bool T.leaf) (.slice r1 T.pairs.length z1) (.slice r2 T.cuts.length z2) (.slice r3 T.kids.length z3) (.slice r4 T.buf.length z4) ∧ AnsV N3 w7 (.agg #[.bool T.leaf, .slice r1 T.pairs.length z1, .slice r2 T.cuts.length z2, .slice r3 T.kids.length z3, .slice r4 T.buf.length z4]) (.slice ak2 ks.length qk2) g ∧ w7.ownsRow N2 5 1 (.slice a3 l.length q3) l.length (flatB l)) := ⟨Below.and M6.out.1 b7, M6.out.2.1.trans (b7.mono (by have := M6.out.2.1.size; omega)), row_chg M6.out.2.2.1 (Chg.of_below (F := fun _ => False) b7) id, row_chg M6.out.2.2.2.1 (Chg.of_below (F := fun _ => False) b7) id, M6.out.2.2.2.2.1.below b7, owns_below M6.out.2.2.2.2.2 b7⟩
  have R7 := Row.of_owns o7
  clear M6 b7 o7
  go_wp2_with fail
  refine (eqByteS_any _ _ l l w7 (Row.of_owns M7.out.2.2.2.2.2) R7).mono ?_
  rintro e w8 ⟨rfl, b8⟩
  rw [decide_eq_true (rfl : l = l)]
  have M8 : Hid (Below w.heap.size w w8 ∧ Below B3 w2 w8 ∧ BoxIs w8 B3 (.bool T.leaf) (.slice p1 T.pairs.length y1) (.slice p2 T.cuts.length y2) (.slice p3 T.kids.length y3) (.slice p4 T.buf.length y4) ∧ BoxIs w8 B7 (.bool T.leaf) (.slice r1 T.pairs.length z1) (.slice r2 T.cuts.length z2) (.slice r3 T.kids.length z3) (.slice r4 T.buf.length z4) ∧ AnsV N3 w8 (.agg #[.bool T.leaf, .slice r1 T.pairs.length z1, .slice r2 T.cuts.length z2, .slice r3 T.kids.length z3, .slice r4 T.buf.length z4]) (.slice ak2 ks.length qk2) g ∧ w8.ownsRow N2 5 1 (.slice a3 l.length q3) l.length (flatB l)) := ⟨Below.and M7.out.1 b8, M7.out.2.1.trans (b8.mono (by have := M7.out.2.1.size; omega)), row_chg M7.out.2.2.1 (Chg.of_below (F := fun _ => False) b8) id, row_chg M7.out.2.2.2.1 (Chg.of_below (F := fun _ => False) b8) id, M7.out.2.2.2.2.1.below b8, owns_below M7.out.2.2.2.2.2 b8⟩
  clear M7 b8 R7
  go_wp2_with fail
  refine (markByteS_any _ l 1 w8 (owns_mono M8.out.2.2.2.2.2 (Nat.zero_le _)) (by omega) (by decide) (by decide)).mono ?_
  rintro e w9 ⟨rfl, _, ch9⟩
  have M9 : Hid (Below w.heap.size w w9 ∧ Below B3 w2 w9 ∧ BoxIs w9 B3 (.bool T.leaf) (.slice p1 T.pairs.length y1) (.slice p2 T.cuts.length y2) (.slice p3 T.kids.length y3) (.slice p4 T.buf.length y4) ∧ BoxIs w9 B7 (.bool T.leaf) (.slice r1 T.pairs.length z1) (.slice r2 T.cuts.length z2) (.slice r3 T.kids.length z3) (.slice r4 T.buf.length z4) ∧ AnsV N3 w9 (.agg #[.bool T.leaf, .slice r1 T.pairs.length z1, .slice r2 T.cuts.length z2, .slice r3 T.kids.length z3, .slice r4 T.buf.length z4]) (.slice ak2 ks.length qk2) g) := by
    obtain ⟨m1, m2, m3, m4, m5, m6⟩ := M8.out
    have hs2 := m2.size
    have hs1 := m1.size
    have bw := BW2.out.size
    refine ⟨m1.trans (ch9.below (fun g _ hg => by have := (V3.out g hg).1; omega) hs1), m2.trans (ch9.below (fun g _ hg => by have := (V3.out g hg).1; omega) (by omega)), m3.chg ch9 (fun e => by have := (V3.out _ e).1; omega), m4.chg ch9 (fun e => by have := (V3.out _ e).2; omega), m5.chg ch9 (fun g hg => (V3.out g hg).2)⟩
  clear M8 ch9
  obtain ⟨c0, c1, c2, c3, c4⟩ := M9.out.2.2.1.cell
  obtain ⟨d0, d1, d2, d3, d4⟩ := M9.out.2.2.2.1.cell
  have hk0 : ¬ (1 : Int) + l.length < 0 := by omega
  go_wp2_with fail
  refine (eqTree_any 2 ⟨T.leaf, .slice r1 T.pairs.length z1, .slice r2 T.cuts.length z2, .slice r3 T.kids.length z3, .slice r4 T.buf.length z4⟩ ⟨T.leaf, .slice p1 T.pairs.length y1, .slice p2 T.cuts.length y2, .slice p3 T.kids.length y3, .slice p4 T.buf.length y4⟩ T w9 (TE.out w9 M9.out.2.2.2.2).1 (SPR'.out w9 M9.out.2.1).1).mono ?_
  rintro e w10 ⟨rfl, b10⟩
  have M10 : Hid (Below w.heap.size w w10 ∧ Below B3 w2 w10 ∧ BoxIs w10 B3 (.bool T.leaf) (.slice p1 T.pairs.length y1) (.slice p2 T.cuts.length y2) (.slice p3 T.kids.length y3) (.slice p4 T.buf.length y4) ∧ BoxIs w10 B7 (.bool T.leaf) (.slice r1 T.pairs.length z1) (.slice r2 T.cuts.length z2) (.slice r3 T.kids.length z3) (.slice r4 T.buf.length z4) ∧ AnsV N3 w10 (.agg #[.bool T.leaf, .slice r1 T.pairs.length z1, .slice r2 T.cuts.length z2, .slice r3 T.kids.length z3, .slice r4 T.buf.length z4]) (.slice ak2 ks.length qk2) g) := ⟨Below.and M9.out.1 b10, M9.out.2.1.trans (b10.mono (by have := M9.out.2.1.size; omega)), row_chg M9.out.2.2.1 (Chg.of_below (F := fun _ => False) b10) id, row_chg M9.out.2.2.2.1 (Chg.of_below (F := fun _ => False) b10) id, M9.out.2.2.2.2.below b10⟩
  clear M9 b10 c0 c1 c2 c3 c4 d0 d1 d2 d3 d4
  go_wp2_with fail
  refine (eqIntS_any _ _ ks ks w10 (TE.out w10 M10.out.2.2.2.2).2 (SPR'.out w10 M10.out.2.1).2).mono ?_
  rintro e w11 ⟨rfl, b11⟩
  rw [decide_eq_true (rfl : ks = ks)]
  have M11 : Hid (Below w.heap.size w w11 ∧ Below B3 w2 w11 ∧ BoxIs w11 B3 (.bool T.leaf) (.slice p1 T.pairs.length y1) (.slice p2 T.cuts.length y2) (.slice p3 T.kids.length y3) (.slice p4 T.buf.length y4) ∧ BoxIs w11 B7 (.bool T.leaf) (.slice r1 T.pairs.length z1) (.slice r2 T.cuts.length z2) (.slice r3 T.kids.length z3) (.slice r4 T.buf.length z4) ∧ AnsV N3 w11 (.agg #[.bool T.leaf, .slice r1 T.pairs.length z1, .slice r2 T.cuts.length z2, .slice r3 T.kids.length z3, .slice r4 T.buf.length z4]) (.slice ak2 ks.length qk2) g) := ⟨Below.and M10.out.1 b11, M10.out.2.1.trans (b11.mono (by have := M10.out.2.1.size; omega)), row_chg M10.out.2.2.1 (Chg.of_below (F := fun _ => False) b11) id, row_chg M10.out.2.2.2.1 (Chg.of_below (F := fun _ => False) b11) id, M10.out.2.2.2.2.below b11⟩
  clear M10 b11
  obtain ⟨d0, d1, d2, d3, d4⟩ := M11.out.2.2.2.1.cell
  go_wp2_with fail
  refine (markTree_ans N3 B7 _ _ g w11 M11.out.2.2.2.2 AB.out).mono ?_
  rintro e w12 ⟨rfl, at12, ch12⟩
  have hin := mtN_in at12
  have M12 : Hid (Below w.heap.size w w12 ∧ Below B3 w2 w12 ∧ BoxIs w12 B3 (.bool T.leaf) (.slice p1 T.pairs.length y1) (.slice p2 T.cuts.length y2) (.slice p3 T.kids.length y3) (.slice p4 T.buf.length y4) ∧ BoxIs w12 B7 (.bool T.leaf) (.slice r1 T.pairs.length z1) (.slice r2 T.cuts.length z2) (.slice r3 T.kids.length z3) (.slice r4 T.buf.length z4) ∧ AnsT N3 w12 (.agg #[.bool T.leaf, .slice r1 T.pairs.length z1, .slice r2 T.cuts.length z2, .slice r3 T.kids.length z3, .slice r4 T.buf.length z4]) (.slice ak2 ks.length qk2) g) := by
    obtain ⟨m1, m2, m3, m4, m5⟩ := M11.out
    have hs2 := m2.size
    have hs1 := m1.size
    have bw := BW2.out.size
    exact ⟨m1.trans (ch12.below (fun g _ hg => by omega) hs1), m2.trans (ch12.below (fun g _ hg => by omega) (by omega)), m3.chg ch12 (fun e => by omega), m4.chg ch12 (fun e => by omega), at12⟩
  clear M11 at12 ch12 d0 d1 d2 d3 d4
  obtain ⟨hi1, hi2, hi3, hi4⟩ := hin
  go_wp2_with fail
  refine (markIntS_ans N3 B7 _ _ g w12 M12.out.2.2.2.2 AB.out).mono ?_
  rintro e w13 ⟨rfl, am13, ch13⟩
  have M13 : Hid (Below w.heap.size w w13 ∧ Below B3 w2 w13 ∧ BoxIs w13 B3 (.bool T.leaf) (.slice p1 T.pairs.length y1) (.slice p2 T.cuts.length y2) (.slice p3 T.kids.length y3) (.slice p4 T.buf.length y4) ∧ BoxIs w13 B7 (.bool T.leaf) (.slice r1 T.pairs.length z1) (.slice r2 T.cuts.length z2) (.slice r3 T.kids.length z3) (.slice r4 T.buf.length z4) ∧ AnsM w13 (.agg #[.bool T.leaf, .slice r1 T.pairs.length z1, .slice r2 T.cuts.length z2, .slice r3 T.kids.length z3, .slice r4 T.buf.length z4]) (.slice ak2 ks.length qk2) g) := by
    obtain ⟨m1, m2, m3, m4, m5⟩ := M12.out
    have hs2 := m2.size
    have hs1 := m1.size
    have bw := BW2.out.size
    exact ⟨m1.trans (ch13.below (fun g _ hg => by omega) hs1), m2.trans (ch13.below (fun g _ hg => by omega) (by omega)), m3.chg ch13 (fun e => by omega), m4.chg ch13 (fun e => by omega), am13⟩
  clear M12 am13 ch13
  have hm1 : ¬ (1 : Int) + mtN g < 0 := by omega
  have hm2 : ¬ (1 : Int) + mtN g + mkN g < 0 := by omega
  generalize hmt : mtN g = mt at *
  generalize hmk : mkN g = mk at *
  have HM : Hid (mtN g = mt ∧ mkN g = mk) := ⟨hmt, hmk⟩
  clear hmt hmk
  obtain ⟨d0, d1, d2, d3, d4⟩ := M13.out.2.2.2.1.cell
  go_wp2_with fail
  refine (heldTree_ans _ _ g w13 M13.out.2.2.2.2).mono ?_
  rintro e w14 ⟨rfl, b14⟩
  rw [HM.out.1]
  have M14 : Hid (Below w.heap.size w w14 ∧ Below B3 w2 w14 ∧ BoxIs w14 B3 (.bool T.leaf) (.slice p1 T.pairs.length y1) (.slice p2 T.cuts.length y2) (.slice p3 T.kids.length y3) (.slice p4 T.buf.length y4) ∧ BoxIs w14 B7 (.bool T.leaf) (.slice r1 T.pairs.length z1) (.slice r2 T.cuts.length z2) (.slice r3 T.kids.length z3) (.slice r4 T.buf.length z4) ∧ AnsM w14 (.agg #[.bool T.leaf, .slice r1 T.pairs.length z1, .slice r2 T.cuts.length z2, .slice r3 T.kids.length z3, .slice r4 T.buf.length z4]) (.slice ak2 ks.length qk2) g) := ⟨Below.and M13.out.1 b14, M13.out.2.1.trans (b14.mono (by have := M13.out.2.1.size; omega)), row_chg M13.out.2.2.1 (Chg.of_below (F := fun _ => False) b14) id, row_chg M13.out.2.2.2.1 (Chg.of_below (F := fun _ => False) b14) id, M13.out.2.2.2.2.below b14⟩
  clear M13 b14 d0 d1 d2 d3 d4
  have HI14 := heldIntS_ans _ _ g w14 M14.out.2.2.2.2
  rw [HM.out.1, HM.out.2] at HI14
  go_wp2_with fail
  refine HI14.mono ?_
  rintro e w15 ⟨rfl, b15⟩
  have M15 : Hid (Below w.heap.size w w15 ∧ Below B3 w2 w15 ∧ BoxIs w15 B3 (.bool T.leaf) (.slice p1 T.pairs.length y1) (.slice p2 T.cuts.length y2) (.slice p3 T.kids.length y3) (.slice p4 T.buf.length y4) ∧ BoxIs w15 B7 (.bool T.leaf) (.slice r1 T.pairs.length z1) (.slice r2 T.cuts.length z2) (.slice r3 T.kids.length z3) (.slice r4 T.buf.length z4) ∧ AnsM w15 (.agg #[.bool T.leaf, .slice r1 T.pairs.length z1, .slice r2 T.cuts.length z2, .slice r3 T.kids.length z3, .slice r4 T.buf.length z4]) (.slice ak2 ks.length qk2) g) := ⟨Below.and M14.out.1 b15, M14.out.2.1.trans (b15.mono (by have := M14.out.2.1.size; omega)), row_chg M14.out.2.2.1 (Chg.of_below (F := fun _ => False) b15) id, row_chg M14.out.2.2.2.1 (Chg.of_below (F := fun _ => False) b15) id, M14.out.2.2.2.2.below b15⟩
  clear M14 b15
  go_wp2_with fail
  refine (toByteS_any _ l w15 (RA.out _ M15.out.1).1 hbl).mono ?_
  rintro e w16 ⟨v16, rfl, o16, b16⟩
  have M16 : Hid (Below w.heap.size w w16 ∧ Below B3 w2 w16 ∧ BoxIs w16 B3 (.bool T.leaf) (.slice p1 T.pairs.length y1) (.slice p2 T.cuts.length y2) (.slice p3 T.kids.length y3) (.slice p4 T.buf.length y4) ∧ BoxIs w16 B7 (.bool T.leaf) (.slice r1 T.pairs.length z1) (.slice r2 T.cuts.length z2) (.slice r3 T.kids.length z3) (.slice r4 T.buf.length z4) ∧ AnsM w16 (.agg #[.bool T.leaf, .slice r1 T.pairs.length z1, .slice r2 T.cuts.length z2, .slice r3 T.kids.length z3, .slice r4 T.buf.length z4]) (.slice ak2 ks.length qk2) g) := ⟨Below.and M15.out.1 b16, M15.out.2.1.trans (b16.mono (by have := M15.out.2.1.size; omega)), row_chg M15.out.2.2.1 (Chg.of_below (F := fun _ => False) b16) id, row_chg M15.out.2.2.2.1 (Chg.of_below (F := fun _ => False) b16) id, M15.out.2.2.2.2.below b16⟩
  have R16 := Row.of_owns o16
  clear M15 b16 o16
  go_wp2_with fail
  refine (IM.out _ w16 R16 (RA.out _ M16.out.1).2).mono ?_
  rintro e w17 ⟨⟨vt', vk', rfl, AN'⟩, b17⟩
  obtain ⟨⟨x', hx', T'⟩, K'⟩ := AN'.tree
  rw [HTK.out.1] at T'
  rw [HTK.out.2] at K'
  obtain ⟨t1, t2, t3, t4, x1, x2, x3, x4, hx''⟩ := T'.shape
  obtain ⟨ak3, qk3, hvk3, _⟩ := K'.len
  subst hx''
  subst hx'
  subst hvk3
  have E13 : (⟨T.leaf, .slice t1 T.pairs.length x1, .slice t2 T.cuts.length x2, .slice t3 T.kids.length x3, .slice t4 T.buf.length x4⟩ : TV).val = (.agg #[.bool T.leaf, .slice t1 T.pairs.length x1, .slice t2 T.cuts.length x2, .slice t3 T.kids.length x3, .slice t4 T.buf.length x4]) := rfl
  rw [E13]
  clear E13 AN'
  have M17 : Hid (Below w.heap.size w w17 ∧ Below B3 w2 w17 ∧ BoxIs w17 B3 (.bool T.leaf) (.slice p1 T.pairs.length y1) (.slice p2 T.cuts.length y2) (.slice p3 T.kids.length y3) (.slice p4 T.buf.length y4) ∧ BoxIs w17 B7 (.bool T.leaf) (.slice r1 T.pairs.length z1) (.slice r2 T.cuts.length z2) (.slice r3 T.kids.length z3) (.slice r4 T.buf.length z4) ∧ AnsM w17 (.agg #[.bool T.leaf, .slice r1 T.pairs.length z1, .slice r2 T.cuts.length z2, .slice r3 T.kids.length z3, .slice r4 T.buf.length z4]) (.slice ak2 ks.length qk2) g) := ⟨Below.and M16.out.1 b17, M16.out.2.1.trans (b17.mono (by have := M16.out.2.1.size; omega)), row_chg M16.out.2.2.1 (Chg.of_below (F := fun _ => False) b17) id, row_chg M16.out.2.2.2.1 (Chg.of_below (F := fun _ => False) b17) id, M16.out.2.2.2.2.below b17⟩
  obtain ⟨c0, c1, c2, c3, c4⟩ := M17.out.2.2.1.cell
  have hlt17 : B3 < w17.heap.size := (Array.getElem?_eq_some_iff.1 M17.out.2.2.1).1
  have hne : ¬ B3 = w17.heap.size := by omega
  have hne2 : ¬ w17.heap.size = B3 := by omega
  have b18 : Below w17.heap.size w17 (w17.alloc (.cells #[.bool T.leaf, .slice t1 T.pairs.length x1, .slice t2 T.cuts.length x2, .slice t3 T.kids.length x3, .slice t4 T.buf.length x4] 29)) := bel_new _ _
  have M18 : Hid ((Below w.heap.size w (w17.alloc (.cells #[.bool T.leaf, .slice t1 T.pairs.length x1, .slice t2 T.cuts.length x2, .slice t3 T.kids.length x3, .slice t4 T.buf.length x4] 29)) ∧ Below B3 w2 (w17.alloc (.cells #[.bool T.leaf, .slice t1 T.pairs.length x1, .slice t2 T.cuts.length x2, .slice t3 T.kids.length x3, .slice t4 T.buf.length x4] 29)) ∧ BoxIs (w17.alloc (.cells #[.bool T.leaf, .slice t1 T.pairs.length x1, .slice t2 T.cuts.length x2, .slice t3 T.kids.length x3, .slice t4 T.buf.length x4] 29)) B3 (.bool T.leaf) (.slice p1 T.pairs.length y1) (.slice p2 T.cuts.length y2) (.slice p3 T.kids.length y3) (.slice p4 T.buf.length y4) ∧ BoxIs (w17.alloc (.cells #[.bool T.leaf, .slice t1 T.pairs.length x1, .slice t2 T.cuts.length x2, .slice t3 T.kids.length x3, .slice t4 T.buf.length x4] 29)) B7 (.bool T.leaf) (.slice r1 T.pairs.length z1) (.slice r2 T.cuts.length z2) (.slice r3 T.kids.length z3) (.slice r4 T.buf.length z4) ∧ AnsM (w17.alloc (.cells #[.bool T.leaf, .slice t1 T.pairs.length x1, .slice t2 T.cuts.length x2, .slice t3 T.kids.length x3, .slice t4 T.buf.length x4] 29)) (.agg #[.bool T.leaf, .slice r1 T.pairs.length z1, .slice r2 T.cuts.length z2, .slice r3 T.kids.length z3, .slice r4 T.buf.length z4]) (.slice ak2 ks.length qk2) g) ∧ TreeAt 2 (w17.alloc (.cells #[.bool T.leaf, .slice t1 T.pairs.length x1, .slice t2 T.cuts.length x2, .slice t3 T.kids.length x3, .slice t4 T.buf.length x4] 29)) ⟨T.leaf, .slice t1 T.pairs.length x1, .slice t2 T.cuts.length x2, .slice t3 T.kids.length x3, .slice t4 T.buf.length x4⟩ T ∧ Row (w17.alloc (.cells #[.bool T.leaf, .slice t1 T.pairs.length x1, .slice t2 T.cuts.length x2, .slice t3 T.kids.length x3, .slice t4 T.buf.length x4] 29)) (.slice ak3 ks.length qk3) ks.length (flatI ks)) := ⟨⟨Below.and M17.out.1 b18, M17.out.2.1.trans (b18.mono (by have := M17.out.2.1.size; omega)), row_chg M17.out.2.2.1 (Chg.of_below (F := fun _ => False) b18) id, row_chg M17.out.2.2.2.1 (Chg.of_below (F := fun _ => False) b18) id, M17.out.2.2.2.2.below b18⟩, T'.below b18, K'.below b18⟩
  clear M16 b17 T' K' M17 b18
  go_wp2_with fail
  generalize w17.alloc (.cells #[.bool T.leaf, .slice t1 T.pairs.length x1, .slice t2 T.cuts.length x2, .slice t3 T.kids.length x3, .slice t4 T.buf.length x4] 29) = W18 at *
  refine (eqTree_any 2 ⟨T.leaf, .slice t1 T.pairs.length x1, .slice t2 T.cuts.length x2, .slice t3 T.kids.length x3, .slice t4 T.buf.length x4⟩ ⟨T.leaf, .slice p1 T.pairs.length y1, .slice p2 T.cuts.length y2, .slice p3 T.kids.length y3, .slice p4 T.buf.length y4⟩ T W18 M18.out.2.1 (SPR'.out W18 M18.out.1.2.1).1).mono ?_
  rintro e w19 ⟨rfl, b19⟩
  have M19 : Hid ((Below w.heap.size w w19 ∧ Below B3 w2 w19 ∧ BoxIs w19 B3 (.bool T.leaf) (.slice p1 T.pairs.length y1) (.slice p2 T.cuts.length y2) (.slice p3 T.kids.length y3) (.slice p4 T.buf.length y4) ∧ BoxIs w19 B7 (.bool T.leaf) (.slice r1 T.pairs.length z1) (.slice r2 T.cuts.length z2) (.slice r3 T.kids.length z3) (.slice r4 T.buf.length z4) ∧ AnsM w19 (.agg #[.bool T.leaf, .slice r1 T.pairs.length z1, .slice r2 T.cuts.length z2, .slice r3 T.kids.length z3, .slice r4 T.buf.length z4]) (.slice ak2 ks.length qk2) g) ∧ Row w19 (.slice ak3 ks.length qk3) ks.length (flatI ks)) := ⟨⟨Below.and M18.out.1.1 b19, M18.out.1.2.1.trans (b19.mono (by have := M18.out.1.2.1.size; omega)), row_chg M18.out.1.2.2.1 (Chg.of_below (F := fun _ => False) b19) id, row_chg M18.out.1.2.2.2.1 (Chg.of_below (F := fun _ => False) b19) id, M18.out.1.2.2.2.2.below b19⟩, M18.out.2.2.below b19⟩
  clear M18 b19 c0 c1 c2 c3 c4 hlt17 hne hne2
  go_wp2_with fail
  refine (eqIntS_any _ _ ks ks w19 M19.out.2 (SPR'.out w19 M19.out.1.2.1).2).mono ?_
  rintro e w20 ⟨rfl, b20⟩
  rw [decide_eq_true (rfl : ks = ks)]
  have M20 : Hid (Below w.heap.size w w20 ∧ Below B3 w2 w20 ∧ BoxIs w20 B3 (.bool T.leaf) (.slice p1 T.pairs.length y1) (.slice p2 T.cuts.length y2) (.slice p3 T.kids.length y3) (.slice p4 T.buf.length y4) ∧ BoxIs w20 B7 (.bool T.leaf) (.slice r1 T.pairs.length z1) (.slice r2 T.cuts.length z2) (.slice r3 T.kids.length z3) (.slice r4 T.buf.length z4) ∧ AnsM w20 (.agg #[.bool T.leaf, .slice r1 T.pairs.length z1, .slice r2 T.cuts.length z2, .slice r3 T.kids.length z3, .slice r4 T.buf.length z4]) (.slice ak2 ks.length qk2) g) := ⟨Below.and M19.out.1.1 b20, M19.out.1.2.1.trans (b20.mono (by have := M19.out.1.2.1.size; omega)), row_chg M19.out.1.2.2.1 (Chg.of_below (F := fun _ => False) b20) id, row_chg M19.out.1.2.2.2.1 (Chg.of_below (F := fun _ => False) b20) id, M19.out.1.2.2.2.2.below b20⟩
  clear M19 b20
  obtain ⟨d0, d1, d2, d3, d4⟩ := M20.out.2.2.2.1.cell
  go_wp2_with fail
  refine (heldTree_ans _ _ g w20 M20.out.2.2.2.2).mono ?_
  rintro e w21 ⟨rfl, b21⟩
  rw [HM.out.1]
  have M21 : Hid (Below w.heap.size w w21 ∧ Below B3 w2 w21 ∧ BoxIs w21 B3 (.bool T.leaf) (.slice p1 T.pairs.length y1) (.slice p2 T.cuts.length y2) (.slice p3 T.kids.length y3) (.slice p4 T.buf.length y4) ∧ BoxIs w21 B7 (.bool T.leaf) (.slice r1 T.pairs.length z1) (.slice r2 T.cuts.length z2) (.slice r3 T.kids.length z3) (.slice r4 T.buf.length z4) ∧ AnsM w21 (.agg #[.bool T.leaf, .slice r1 T.pairs.length z1, .slice r2 T.cuts.length z2, .slice r3 T.kids.length z3, .slice r4 T.buf.length z4]) (.slice ak2 ks.length qk2) g) := ⟨Below.and M20.out.1 b21, M20.out.2.1.trans (b21.mono (by have := M20.out.2.1.size; omega)), row_chg M20.out.2.2.1 (Chg.of_below (F := fun _ => False) b21) id, row_chg M20.out.2.2.2.1 (Chg.of_below (F := fun _ => False) b21) id, M20.out.2.2.2.2.below b21⟩
  clear M20 b21 d0 d1 d2 d3 d4
  have HI21 := heldIntS_ans _ _ g w21 M21.out.2.2.2.2
  rw [HM.out.1, HM.out.2] at HI21
  go_wp2_with fail
  refine HI21.mono ?_
  rintro e w22 ⟨rfl, b22⟩
  have M22 : Hid (Below w.heap.size w w22) := Below.and M21.out.1 b22
  clear M21 b22
  go_wp2
  go_ret
  exact ⟨rfl, M22.out⟩

end Go.Proofs.YtfedeljadckjiaaDoor
