/-
  The contract of the model's l4Give, at a leaf.
-/
import Derived.Test.YtekcnibohikmdaaOfWrites28
import Derived.Test.YtekcnibohikmdaaOfWrites8
import Derived.Test.YtekcnibohikmdaaOfWrites29
namespace Go.Proofs.Ytekcnibohikmdaa
set_option maxRecDepth 100000
set_option maxHeartbeats 8000000
section
open Go.RowKit

theorem give_leaf (n : Nat) (F : Nat → Prop) (x : TV) (T : Tr) (vm : Value) (ms : ML) (w : World) (ht : TreeF (n + 1) w F x T) (hm : Row w vm ms.length (flatM ms)) (hl : T.leaf = true) (hn : T.pairs.length + ms.length ≤ 1000004) :
  Calls Try.prog 50 #[x.val, vm] w fun e w' => ∃ v1 v2, e = .returned (.agg #[v1, v2]) ∧ TreesF 1 w' (fun b => F b ∨ w.heap.size ≤ b) v1 (leafM (allL T.pairs ms)).1 ∧ RowF w' (fun b => F b ∨ w.heap.size ≤ b) v2 (leafM (allL T.pairs ms)).2.length (flatI (leafM (allL T.pairs ms)).2) ∧ Below w.heap.size w w' := by
 obtain ⟨_, hp, _, _, _⟩ := ht.parts
 obtain ⟨a1, a2, a3, a4, q1, q2, q3, q4, hx⟩ := ht.treeAt.shape
 subst hx
 simp only at hp
 rw [hl] at *
 have RP := hid (hp.row)
 have RM := hid (hm)
 obtain ⟨am, qm, hvm, _⟩ := hm.len
 subst hvm
 have hal := allL_length T.pairs ms
 have HA := hid (fun w1 (hb : Below w.heap.size w w1) => specMapAll_any _ _ T.pairs ms w1 (RP.out.below hb) (RM.out.below hb) (by omega))
 clear ht hp hm RP RM
 generalize T.cuts.length = n2 at *
 generalize T.kids.length = n3 at *
 generalize T.buf.length = n4 at *
 generalize hA : allL T.pairs ms = A at *
 generalize T.pairs.length = n1 at *
 generalize hnm : ms.length = nm at *
 have B0 : Hid (Below w.heap.size w ((w.alloc (.cells #[.bool true, .slice a1 n1 q1, .slice a2 n2 q2, .slice a3 n3 q3, .slice a4 n4 q4] 54)).alloc (.cells #[.slice none 0 0, .slice none 0 0] 95))) := al2 _ _ _
 have S0 : Hid (OneAt ((w.alloc (.cells #[.bool true, .slice a1 n1 q1, .slice a2 n2 q2, .slice a3 n3 q3, .slice a4 n4 q4] 54)).alloc (.cells #[.slice none 0 0, .slice none 0 0] 95)) w.heap.size #[.bool true, .slice a1 n1 q1, .slice a2 n2 q2, .slice a3 n3 q3, .slice a4 n4 q4]) := (OneAt.start w _).step (al1 _ _)
 have X1 : Hid (BoxM ((w.alloc (.cells #[.bool true, .slice a1 n1 q1, .slice a2 n2 q2, .slice a3 n3 q3, .slice a4 n4 q4] 54)).alloc (.cells #[.slice none 0 0, .slice none 0 0] 95)) (w.heap.size + 1) #[.slice none 0 0, .slice none 0 0]) := by
  have := BoxM.start (w.alloc (.cells #[.bool true, .slice a1 n1 q1, .slice a2 n2 q2, .slice a3 n3 q3, .slice a4 n4 q4] 54)) #[.slice none 0 0, .slice none 0 0]
  rw [World.size_alloc] at this
  exact this
 have HA1 : Hid _ := HA.out _ B0.out
 show Calls Try.prog 50 #[.agg #[.bool true, .slice a1 n1 q1, .slice a2 n2 q2, .slice a3 n3 q3, .slice a4 n4 q4], .slice am nm qm] w _
 obtain ⟨k0, k1, k2, k3, k4⟩ := box_cells5 S0.out
 go_enter Try.func50, Try.ntmps50
 go_wp2_with fail
 refine Calls.mono HA1.out ?_
 rintro e w1 ⟨v1, rfl, o1, hb1⟩
 have B1 : Hid (Below w.heap.size w w1) := Below.and B0.out hb1
 have X1' := hid (X1.out.step hb1 X1.out.lt)
 have Z1 : Hid (w.heap.size + 2 ≤ w1.heap.size) := by
  have := hb1.size
  simp at this
  exact this
 have N1 : Hid (∀ g, v1.ownBlock = some g → w.heap.size + 2 ≤ g ∧ g < w1.heap.size) := fun g hg => by
  have := o1.lt g hg
  simp at this
  exact this
 have HL : Hid _ := l4Leaf_any (fun g => v1.ownBlock = some g) v1 A w1 (RowF.of_owns o1) (by omega)
 clear HA HA1 o1 hb1 B0 S0 X1 k0 k1 k2 k3 k4
 go_wp2_with fail
 refine Calls.mono HL.out ?_
 rintro e w2 ⟨u1, u2, rfl, T2, R2, hb2⟩
 obtain ⟨ax, qx, hu1, _⟩ := (show Row w2 u1 (leafM A).1.length _ from (T2.els.choose_spec.2).row).len
 obtain ⟨ay, qy, hu2, _⟩ := R2.row.len
 subst hu1
 subst hu2
 have BX := hid (X1'.out.step hb2 X1'.out.lt)
 have FIN : Hid (∀ v v', TreesF 1 (set2 w2 (w.heap.size + 1) v v') (fun b => F b ∨ w.heap.size ≤ b) (.slice ax (leafM A).1.length qx) (leafM A).1 ∧ RowF (set2 w2 (w.heap.size + 1) v v') (fun b => F b ∨ w.heap.size ≤ b) (.slice ay (leafM A).2.length qy) (leafM A).2.length (flatI (leafM A).2) ∧ Below w.heap.size w (set2 w2 (w.heap.size + 1) v v')) := fun v v' => by
  have hc := chg_set2 w2 (w.heap.size + 1) v v'
  have hz := Z1.out
  have hk : ∀ g, v1.ownBlock = some g ∨ w1.heap.size ≤ g → ¬ g = w.heap.size + 1 ∧ w.heap.size ≤ g := fun g hg => by
   rcases hg with h | h
   ·have := N1.out g h
    omega
   ·omega
  exact ⟨(T2.chg hc (fun g hg => (hk g hg).1)).mono (fun g hg => .inr (hk g hg).2), (R2.chg hc (fun g hg => (hk g hg).1)).mono (fun g hg => .inr (hk g hg).2), (Below.and B1.out hb2).trans (hc.below (fun g _ hg => by omega) (by have := hb2.size; omega))⟩
 obtain ⟨m0, m1⟩ := BX.out.two
 obtain ⟨f0, f1⟩ := BX.out.free
 clear T2 R2 hb2 B1 X1' HL N1
 generalize (leafM A).1.length = l1 at *
 generalize hl2 : (leafM A).2.length = l2 at *
 go_wp2
 refine bodyPost_ret (v := .agg #[.slice ax l1 qx, .slice ay l2 qy]) (by simp [results, Try.results50, go_sem, m0, m1]) rfl ⟨_, _, rfl, (FIN.out _ _).1, by rw [hl2]; exact (FIN.out _ _).2.1, (FIN.out _ _).2.2⟩
end
end Go.Proofs.Ytekcnibohikmdaa
