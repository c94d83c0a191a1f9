/-
  The contract of the model's l4Drain.
-/
import Derived.Test.YtekcnibohikmdaaOfWrites32
namespace Go.Proofs.Ytekcnibohikmdaa
set_option maxRecDepth 100000
set_option maxHeartbeats 8000000
section
open Go.RowKit

def DrainIs (d : Nat) : Prop := ∀ (F : Nat → Prop) (x : TV) (T : Tr) (w : World), TreeF d w F x T → shT d T → wt d T ≤ 1000000 →
 Calls Try.prog 52 #[x.val] w fun e w' => ∃ v1 v2, e = .returned (.agg #[v1, v2]) ∧ TreesF d w' (fun b => F b ∨ w.heap.size ≤ b) v1 (drainM d T).1 ∧ RowF w' (fun b => F b ∨ w.heap.size ≤ b) v2 (drainM d T).2.length (flatI (drainM d T).2) ∧ Below w.heap.size w w'

theorem drainKid_ok {d : Nat} {m : TM} (hm : MOk d m) : ∀ i, i < m.1.length → MOk d (drainM d (m.1.getD i noTr)) ∧ wtL d (drainM d (m.1.getD i noTr)).1 ≤ wt d (m.1.getD i noTr) + 0 := fun _ hi => drainM_ok d _ (hm.2 _ (getD_mem hi))
theorem sum_zero : ∀ n : Nat, ((List.range n).map fun _ => 0).sum = 0
 | 0 => rfl
 | n + 1 => by rw [List.range_succ, List.map_append, List.sum_append, sum_zero n]; rfl
theorem drainKid_le {d : Nat} {m : TM} (hm : MOk d m) {i : Nat} (hi : i < m.1.length) : (drainM d (m.1.getD i noTr)).1.length ≤ wtL d m.1 ∧ (drainM d (m.1.getD i noTr)).2.length ≤ wtL d m.1 := by
 obtain ⟨k1, k2⟩ := drainKid_ok hm i hi
 have h1 := wtL_length k1.2
 have h2 := wt_at (d := d) hi
 have h4 := k1.1
 exact ⟨by omega, by omega⟩
theorem drainSide_le {d : Nat} {m : TM} (hm : MOk d m) {k : Nat} (hk : k ≤ m.1.length) : (sideT (fun i => drainM d (m.1.getD i noTr)) k).length ≤ wtL d m.1 ∧ (sideC (fun i => drainM d (m.1.getD i noTr)) m.2 k).length ≤ wtL d m.1 := by
 obtain ⟨k1, k2, k3, _⟩ := side_ok (d := d) (m := m) (fun i => drainM d (m.1.getD i noTr)) (fun _ => 0) (drainKid_ok hm) k hk
 rw [sum_zero] at k3
 have h2 := sum_take_le (wt d) m.1 k
 have h3 := wtL_length k1
 unfold wtL at *
 refine ⟨by omega, ?_⟩
 split at k2 <;> omega

theorem drain_leaf (n : Nat) (F : Nat → Prop) (x : TV) (T : Tr) (w : World) (ht : TreeF (n + 1) w F x T) (hl : T.leaf = true) :
  Calls Try.prog 52 #[x.val] w fun e w' => ∃ v1 v2, e = .returned (.agg #[v1, v2]) ∧ TreesF (n + 1) w' (fun b => F b ∨ w.heap.size ≤ b) v1 [T] ∧ RowF w' (fun b => F b ∨ w.heap.size ≤ b) v2 0 (flatI []) ∧ Below w.heap.size w w' := by
 have TT : Hid (TreeF (n + 1) w (fun g => F g ∧ g < w.heap.size) x T) := ht.lt
 obtain ⟨a1, a2, a3, a4, q1, q2, q3, q4, hx⟩ := ht.treeAt.shape
 subst hx
 rw [hl] at TT ⊢
 clear ht
 generalize T.pairs.length = n1 at *
 generalize T.cuts.length = n2 at *
 generalize T.kids.length = n3 at *
 generalize T.buf.length = n4 at *
 have S0 : Hid (OneAt ((w.alloc (.cells #[.bool true, .slice a1 n1 q1, .slice a2 n2 q2, .slice a3 n3 q3, .slice a4 n4 q4] 54)).alloc (.cells #[.slice none 0 0, .slice none 0 0] 95)) w.heap.size #[.bool true, .slice a1 n1 q1, .slice a2 n2 q2, .slice a3 n3 q3, .slice a4 n4 q4]) := (OneAt.start w _).step (al1 _ _)
 have X1 : Hid (BoxM ((w.alloc (.cells #[.bool true, .slice a1 n1 q1, .slice a2 n2 q2, .slice a3 n3 q3, .slice a4 n4 q4] 54)).alloc (.cells #[.slice none 0 0, .slice none 0 0] 95)) (w.heap.size + 1) #[.slice none 0 0, .slice none 0 0]) := by
  have := BoxM.start (w.alloc (.cells #[.bool true, .slice a1 n1 q1, .slice a2 n2 q2, .slice a3 n3 q3, .slice a4 n4 q4] 54)) #[.slice none 0 0, .slice none 0 0]
  rw [World.size_alloc] at this
  exact this
 have B0 : Hid (Below w.heap.size w ((w.alloc (.cells #[.bool true, .slice a1 n1 q1, .slice a2 n2 q2, .slice a3 n3 q3, .slice a4 n4 q4] 54)).alloc (.cells #[.slice none 0 0, .slice none 0 0] 95))) := al2 _ _ _
 have Z0 : Hid (((w.alloc (.cells #[.bool true, .slice a1 n1 q1, .slice a2 n2 q2, .slice a3 n3 q3, .slice a4 n4 q4] 54)).alloc (.cells #[.slice none 0 0, .slice none 0 0] 95)).heap.size = w.heap.size + 2) := by show _ = _; simp
 show Calls Try.prog 52 #[.agg #[.bool true, .slice a1 n1 q1, .slice a2 n2 q2, .slice a3 n3 q3, .slice a4 n4 q4]] w _
 obtain ⟨k0, k1, k2, k3, k4⟩ := box_cells5 S0.out
 go_enter Try.func52, Try.ntmps52
 go_upto_if 8 with fail
 refine wp_gen (fun V => OneAt V w.heap.size #[.bool true, .slice a1 n1 q1, .slice a2 n2 q2, .slice a3 n3 q3, .slice a4 n4 q4] ∧ BoxM V (w.heap.size + 1) #[.slice none 0 0, .slice none 0 0] ∧ Below w.heap.size w V ∧ V.heap.size = w.heap.size + 2) ⟨S0.out, X1.out, B0.out, Z0.out⟩ ?_
 rintro V ⟨VS, VX, VB, VZ0⟩
 have VZ : Hid (V.heap.size = w.heap.size + 2) := VZ0
 clear S0 X1 B0 Z0 k0 k1 k2 k3 k4
 obtain ⟨k0, k1, k2, k3, k4⟩ := box_cells5 VS
 have BRA : Hid (BoxM (V.alloc (.cells #[.bool true, .slice a1 n1 q1, .slice a2 n2 q2, .slice a3 n3 q3, .slice a4 n4 q4] 54)) (w.heap.size + 1) #[.slice none 0 0, .slice none 0 0]) := VX.alloc _
 obtain ⟨m0, m1⟩ := BRA.out.two
 obtain ⟨f0, f1⟩ := BRA.out.free
 have FIN : Hid (∀ v v', TreesF (n + 1) (set2 (V.alloc (.cells #[.bool true, .slice a1 n1 q1, .slice a2 n2 q2, .slice a3 n3 q3, .slice a4 n4 q4] 54)) (w.heap.size + 1) v v') (fun b => F b ∨ w.heap.size ≤ b) (.slice (some ⟨V.heap.size, 0, none⟩) 1 1) [T] ∧ Below w.heap.size w (set2 (V.alloc (.cells #[.bool true, .slice a1 n1 q1, .slice a2 n2 q2, .slice a3 n3 q3, .slice a4 n4 q4] 54)) (w.heap.size + 1) v v')) := fun v v' => by
  have hc := chg_set2 (V.alloc (.cells #[.bool true, .slice a1 n1 q1, .slice a2 n2 q2, .slice a3 n3 q3, .slice a4 n4 q4] 54)) (w.heap.size + 1) v v'
  refine ⟨⟨[⟨true, .slice a1 n1 q1, .slice a2 n2 q2, .slice a3 n3 q3, .slice a4 n4 q4⟩], rfl, ?_, fun i hi => ?_⟩, (Below.and VB (al1 V _)).trans (hc.below (fun g _ hg => by omega) (by simp; omega))⟩
  ·exact ((RowF.laid V [.bool true, .slice a1 n1 q1, .slice a2 n2 q2, .slice a3 n3 q3, .slice a4 n4 q4] 54 _ rfl).chg hc (fun g hg k => by omega)).mono (fun g hg => .inr (by omega))
  ·have hi0 : i = 0 := by simp at hi; omega
   subst hi0
   exact ((TT.out.frame (fun g hg _ => (Below.and VB (al1 V _)).block g hg.2)).chg hc (fun g hg k => by omega)).mono (fun g hg => .inl hg.1)
 clear VS VX VB VZ0
 go_wp2
 refine bodyPost_ret (v := .agg #[.slice (some ⟨V.heap.size, 0, none⟩) 1 1, .slice none 0 0]) (by simp [results, Try.results52, go_sem, m0, m1]) rfl ⟨_, _, rfl, (FIN.out _ _).1, RowF.nil _ _, (FIN.out _ _).2⟩

theorem drain_fork {d : Nat} (H : DrainIs d) (HD : DownIs d) (F0 : Nat → Prop) (x : TV) (T : Tr) (w0 : World) (ht0 : TreeF (d + 1) w0 F0 x T) (hl : T.leaf = false) (hmo0 : MOk d (T.kids, T.cuts)) (h2 : 2 ≤ T.kids.length) (hn : wtL d T.kids + T.buf.length ≤ 1000000) :
  Calls Try.prog 52 #[x.val] w0 fun e w' => ∃ v1 v2, e = .returned (.agg #[v1, v2]) ∧ TreesF (d + 1) w' (fun b => F0 b ∨ w0.heap.size ≤ b) v1 (endD (bothM (fun i => drainM d ((downM (giveM d) (T.kids, T.cuts) T.buf).1.getD i noTr)) (downM (giveM d) (T.kids, T.cuts) T.buf))).1 ∧ RowF w' (fun b => F0 b ∨ w0.heap.size ≤ b) v2 (endD (bothM (fun i => drainM d ((downM (giveM d) (T.kids, T.cuts) T.buf).1.getD i noTr)) (downM (giveM d) (T.kids, T.cuts) T.buf))).2.length (flatI (endD (bothM (fun i => drainM d ((downM (giveM d) (T.kids, T.cuts) T.buf).1.getD i noTr)) (downM (giveM d) (T.kids, T.cuts) T.buf))).2) ∧ Below w0.heap.size w0 w' := by
 obtain ⟨i0, hi0, hz0, hz1, hz2⟩ := info_parts Try.info54
 obtain ⟨j0, hj0', hy0, hy1, hy2⟩ := info_parts Try.info3
 obtain ⟨_, _, hcu, hbu, hki⟩ := ht0.parts
 obtain ⟨ta1, ta2, ta3, ta4, tq1, tq2, tq3, tq4, hx⟩ := ht0.treeAt.shape
 subst hx
 simp only at hcu hbu hki
 rw [hl]
 have TC : Hid (RowF w0 (fun g => F0 g ∧ g < w0.heap.size) (.slice ta2 T.cuts.length tq2) T.cuts.length (flatI T.cuts)) := hcu.lt (flatI_ne _).2
 have TB : Hid (Row w0 (.slice ta4 T.buf.length tq4) T.buf.length (flatM T.buf)) := hbu.row
 have TK : Hid (TreesF d w0 (fun g => F0 g ∧ g < w0.heap.size) (.slice ta3 T.kids.length tq3) T.kids) := hki.lt
 have DO := downM_ok (giveM_ok d) hmo0 T.buf
 have HDD : Hid (∀ w1, Below w0.heap.size w0 w1 → Calls Try.prog 64 #[.agg #[.slice ta3 T.kids.length tq3, .slice ta2 T.cuts.length tq2], .slice ta4 T.buf.length tq4] w1 fun e w' => ∃ v1 v2, e = .returned (.agg #[v1, v2]) ∧ TreesF d w' (fun b => (F0 b ∧ b < w0.heap.size) ∨ w1.heap.size ≤ b) v1 (downM (giveM d) (T.kids, T.cuts) T.buf).1 ∧ RowF w' (fun b => (F0 b ∧ b < w0.heap.size) ∨ w1.heap.size ≤ b) v2 (downM (giveM d) (T.kids, T.cuts) T.buf).2.length (flatI (downM (giveM d) (T.kids, T.cuts) T.buf).2) ∧ Below w1.heap.size w1 w') :=
  fun w1 hb => HD (fun g => F0 g ∧ g < w0.heap.size) _ _ _ (T.kids, T.cuts) T.buf w1 (TK.out.frame (fun g hg _ => hb.block g hg.2)) (TC.out.frame (fun g hg _ => hb.block g hg.2)) (TB.out.below hb) hmo0 hn
 have HMO : Hid (MOk d (downM (giveM d) (T.kids, T.cuts) T.buf)) := DO.1
 have HWT : Hid (wtL d (downM (giveM d) (T.kids, T.cuts) T.buf).1 ≤ 1000000) := Nat.le_trans DO.2.1 hn
 have HM2 : Hid (2 ≤ (downM (giveM d) (T.kids, T.cuts) T.buf).1.length) := Nat.le_trans h2 DO.2.2
 generalize downM (giveM d) (T.kids, T.cuts) T.buf = m at *
 clear TC TB TK hcu hbu hki ht0 DO HD hn hmo0 h2
 generalize T.pairs.length = tn1 at *
 generalize T.cuts.length = tn2 at *
 generalize T.kids.length = tn3 at *
 generalize T.buf.length = tn4 at *
 have B0 : Hid (Below w0.heap.size w0 ((w0.alloc (.cells #[.bool false, .slice ta1 tn1 tq1, .slice ta2 tn2 tq2, .slice ta3 tn3 tq3, .slice ta4 tn4 tq4] 54)).alloc (.cells #[.slice none 0 0, .slice none 0 0] 95))) := al2 _ _ _
 have S0 : Hid (OneAt ((w0.alloc (.cells #[.bool false, .slice ta1 tn1 tq1, .slice ta2 tn2 tq2, .slice ta3 tn3 tq3, .slice ta4 tn4 tq4] 54)).alloc (.cells #[.slice none 0 0, .slice none 0 0] 95)) w0.heap.size #[.bool false, .slice ta1 tn1 tq1, .slice ta2 tn2 tq2, .slice ta3 tn3 tq3, .slice ta4 tn4 tq4]) := (OneAt.start w0 _).step (al1 _ _)
 have X1 : Hid (BoxM ((w0.alloc (.cells #[.bool false, .slice ta1 tn1 tq1, .slice ta2 tn2 tq2, .slice ta3 tn3 tq3, .slice ta4 tn4 tq4] 54)).alloc (.cells #[.slice none 0 0, .slice none 0 0] 95)) (w0.heap.size + 1) #[.slice none 0 0, .slice none 0 0]) := by
  have := BoxM.start (w0.alloc (.cells #[.bool false, .slice ta1 tn1 tq1, .slice ta2 tn2 tq2, .slice ta3 tn3 tq3, .slice ta4 tn4 tq4] 54)) #[.slice none 0 0, .slice none 0 0]
  rw [World.size_alloc] at this
  exact this
 have HA1 : Hid _ := HDD.out _ B0.out
 show Calls Try.prog 52 #[.agg #[.bool false, .slice ta1 tn1 tq1, .slice ta2 tn2 tq2, .slice ta3 tn3 tq3, .slice ta4 tn4 tq4]] w0 _
 obtain ⟨k0, k1, k2, k3, k4⟩ := box_cells5 S0.out
 go_enter Try.func52, Try.ntmps52
 go_wp2_with fail
 refine Calls.mono HA1.out ?_
 rintro e w ⟨vt, vc, rfl, ht, hc, hbd⟩
 have hsz : w0.heap.size + 2 ≤ w.heap.size := by
  have := hbd.size
  simp at this
  exact this
 have BW0 : Hid (Below w0.heap.size w0 w) := Below.and B0.out hbd
 have X1w : Hid (BoxM w (w0.heap.size + 1) #[.slice none 0 0, .slice none 0 0]) := X1.out.step hbd X1.out.lt
 replace ht : TreesF d w (fun g => (F0 g ∧ g < w0.heap.size) ∨ w0.heap.size + 2 ≤ g) vt m.1 := ht.mono (fun g hg => hg.imp id (fun h => by simp at h; exact h))
 replace hc : RowF w (fun g => (F0 g ∧ g < w0.heap.size) ∨ w0.heap.size + 2 ≤ g) vc m.2.length (flatI m.2) := hc.mono (fun g hg => hg.imp id (fun h => by simp at h; exact h))
 clear B0 S0 X1 HA1 HDD k0 k1 k2 k3 k4 hbd
 obtain ⟨F, hF⟩ : ∃ F : Nat → Prop, F = (fun g => (F0 g ∧ g < w0.heap.size) ∨ w0.heap.size + 2 ≤ g) := ⟨_, rfl⟩
 rw [← hF] at ht hc
 have PF : Hid (∀ g, F g → g ≠ w0.heap.size + 1 ∧ (F0 g ∨ w0.heap.size ≤ g)) := fun g hg => by
  rw [hF] at hg
  rcases hg with ⟨h1, h2⟩ | h
  ·exact ⟨by omega, .inl h1⟩
  ·exact ⟨by omega, .inr (by omega)⟩
 clear hF
 obtain ⟨fx, hfx⟩ : ∃ fx : Nat → TM, fx = fun i => drainM d (m.1.getD i noTr) := ⟨_, rfl⟩
 have KO : ∀ i, i < m.1.length → MOk d (fx i) ∧ wtL d (fx i).1 ≤ wt d (m.1.getD i noTr) + (fun _ => 0) i := by rw [hfx]; exact drainKid_ok HMO.out
 have BO := bothM_ok HMO.out fx (fun _ => 0) KO
 rw [sum_zero] at BO
 have hwtm := HWT.out
 have hm2 := HM2.out
 have E1 : Hid (4 < (sideT fx m.1.length).length → endD (bothM (fun i => drainM d (m.1.getD i noTr)) m) = packM (sideT fx m.1.length, sideC fx m.2 m.1.length)) := fun h => by show _ = _; rw [← hfx]; exact if_pos h
 have E2 : Hid (¬ 4 < (sideT fx m.1.length).length → endD (bothM (fun i => drainM d (m.1.getD i noTr)) m) = ([⟨false, [], sideC fx m.2 m.1.length, sideT fx m.1.length, []⟩], [])) := fun h => by show _ = _; rw [← hfx]; exact if_neg h
 have MB : Hid (MOk d (sideT fx m.1.length, sideC fx m.2 m.1.length) ∧ wtL d (sideT fx m.1.length) ≤ 1000000 ∧ 2 ≤ (sideT fx m.1.length).length) := ⟨BO.1, by have := BO.2.1; show wtL d (bothM fx m).1 ≤ _; omega, by have := BO.2.2; show 2 ≤ (bothM fx m).1.length; omega⟩
 clear BO KO
 obtain ⟨xs0, hxl, hrow, hel⟩ := ht
 have hmo1 := HMO.out.1
 have HE : Hid (∀ i, i < xs0.length → TreeF d w (fun g => F g ∧ g < w.heap.size) (tvAt xs0 i) (m.1.getD i noTr)) := fun i hi => (hel i hi).lt
 obtain ⟨av, b1, off1, c1, hvt, hcap1, hmax1, ha1, d0, d1, d2, d3, d4⟩ := hrow.row.trees
 obtain ⟨bv, b2, off2, c2, hvc, hcap2, hmax2, ha2, ck⟩ := hc.row.ints
 subst hvt
 subst hvc
 have hav := ha1 (by omega)
 subst hav
 unfold maxLen at hmax1 hmax2
 have hwl : m.1.length ≤ 1000000 := by have := wtL_length HMO.out.2; omega
 have HG : Hid (∀ (j : Nat) (w1 : World), j < m.1.length → Below w.heap.size w w1 → Calls Try.prog 52 #[(tvAt xs0 j).val] w1 fun e w' => ∃ v1 v2, e = .returned (.agg #[v1, v2]) ∧ TreesF d w' (fun b => (F b ∧ b < w.heap.size) ∨ w1.heap.size ≤ b) v1 (fx j).1 ∧ RowF w' (fun b => (F b ∧ b < w.heap.size) ∨ w1.heap.size ≤ b) v2 (fx j).2.length (flatI (fx j).2) ∧ Below w1.heap.size w1 w') := by
  rw [hfx]
  exact fun j w1 hj hbw => H (fun b => F b ∧ b < w.heap.size) (tvAt xs0 j) (m.1.getD j noTr) w1 ((HE.out j (by omega)).frame (fun g hg _ => hbw.block g hg.2)) (HMO.out.2 _ (getD_mem hj)) (by have := wt_at (d := d) hj; omega)
 have KL : Hid (∀ j, j < m.1.length → (fx j).1.length ≤ 1000000 ∧ (fx j).2.length ≤ 1000000) := by
  rw [hfx]
  exact fun j hj => by have := drainKid_le HMO.out hj; exact ⟨Nat.le_trans this.1 hwtm, Nat.le_trans this.2 hwtm⟩
 have SL : Hid (∀ j, j ≤ m.1.length → (sideT fx j).length ≤ 1000000 ∧ (sideC fx m.2 j).length ≤ 1000000) := by
  rw [hfx]
  exact fun j hj => by have := drainSide_le HMO.out hj; exact ⟨Nat.le_trans this.1 hwtm, Nat.le_trans this.2 hwtm⟩
 have ST : Hid (∀ j, sideT fx (j + 1) = sideT fx j ++ (fx j).1) := fun j => rfl
 have SC0 : Hid (∀ j, ¬ 0 < j → sideC fx m.2 (j + 1) = sideC fx m.2 j ++ (fx j).2) := fun j hj => by
  show sideC fx m.2 j ++ (if 0 < j then [iAt m.2 (j - 1)] else []) ++ (fx j).2 = _
  rw [if_neg hj, List.append_nil]
 have SC1 : Hid (∀ j, sideC fx m.2 (j + 1 + 1) = (sideC fx m.2 (j + 1) ++ [iAt m.2 j]) ++ (fx (j + 1)).2) := fun j => rfl
 have T00 : Hid (sideT fx 0 = []) := rfl
 have C00 : Hid (sideC fx m.2 0 = []) := rfl
 have CK : Hid (∀ (j : Nat) (w1 : World), Below w.heap.size w w1 → j < m.2.length → bv = some ⟨b2, off2, none⟩ ∧ w1.cell? ⟨b2, off2 + j, none⟩ = some (.int .i64 (iAt m.2 j))) := fun j w1 h hj => ⟨ha2 (by omega), cell_lowB h (cell_lt (ck j hj)) (ck j hj)⟩
 have PG : Hid (∀ g, g = w0.heap.size + 1 ∨ g = w.heap.size + 1 → ¬ ((F g ∧ g < w.heap.size) ∨ w.heap.size + 2 ≤ g) ∧ g < w.heap.size + 2) := fun g hg => ⟨fun k => by
  rcases k with ⟨k1, k⟩ | k
  ·have := (PF.out g k1).1
   omega
  ·omega, by omega⟩
 have DC : Hid (∀ (j : Nat) (w1 : World), Below w.heap.size w w1 → j < xs0.length → w1.cell? ⟨b1, off1 + j * 5, none⟩ = some (.bool (tvAt xs0 j).lf) ∧ w1.cell? ⟨b1, off1 + j * 5 + 1, none⟩ = some (tvAt xs0 j).p ∧ w1.cell? ⟨b1, off1 + j * 5 + 2, none⟩ = some (tvAt xs0 j).c ∧ w1.cell? ⟨b1, off1 + j * 5 + 3, none⟩ = some (tvAt xs0 j).k ∧ w1.cell? ⟨b1, off1 + j * 5 + 4, none⟩ = some (tvAt xs0 j).b) :=
  fun j w1 h hj => ⟨cell_lowB h (cell_lt (d0 j hj)) (d0 j hj), cell_lowB h (cell_lt (d1 j hj)) (d1 j hj), cell_lowB h (cell_lt (d2 j hj)) (d2 j hj), cell_lowB h (cell_lt (d3 j hj)) (d3 j hj), cell_lowB h (cell_lt (d4 j hj)) (d4 j hj)⟩
 clear d0 d1 d2 d3 d4 ck ha1 ha2 hrow hc hel H HMO HWT HM2 hfx hm2 hwtm
 rw [hxl] at *
 generalize sideT fx = fT at *
 generalize sideC fx m.2 = fC at *
 generalize hn1 : m.1.length = n1 at *
 generalize hn2 : m.2.length = n2 at *
 have B0 : Hid (Below w.heap.size w ((w.alloc (.cells #[.slice (some ⟨b1, off1, none⟩) n1 c1, .slice bv n2 c2] 95)).alloc (.cells #[.slice none 0 0, .slice none 0 0] 95))) := al2 _ _ _
 have X0 : Hid (BoxM ((w.alloc (.cells #[.slice (some ⟨b1, off1, none⟩) n1 c1, .slice bv n2 c2] 95)).alloc (.cells #[.slice none 0 0, .slice none 0 0] 95)) w.heap.size #[.slice (some ⟨b1, off1, none⟩) n1 c1, .slice bv n2 c2]) := (BoxM.start w _).alloc _
 have X2 : Hid (BoxM ((w.alloc (.cells #[.slice (some ⟨b1, off1, none⟩) n1 c1, .slice bv n2 c2] 95)).alloc (.cells #[.slice none 0 0, .slice none 0 0] 95)) (w.heap.size + 1) #[.slice none 0 0, .slice none 0 0]) := by
  have := BoxM.start (w.alloc (.cells #[.slice (some ⟨b1, off1, none⟩) n1 c1, .slice bv n2 c2] 95)) #[.slice none 0 0, .slice none 0 0]
  rw [World.size_alloc] at this
  exact this
 have X3 : Hid (BoxM ((w.alloc (.cells #[.slice (some ⟨b1, off1, none⟩) n1 c1, .slice bv n2 c2] 95)).alloc (.cells #[.slice none 0 0, .slice none 0 0] 95)) (w0.heap.size + 1) #[.slice none 0 0, .slice none 0 0]) := X1w.out.step B0.out (by omega)
 have Z0 : Hid (w.heap.size + 2 ≤ ((w.alloc (.cells #[.slice (some ⟨b1, off1, none⟩) n1 c1, .slice bv n2 c2] 95)).alloc (.cells #[.slice none 0 0, .slice none 0 0] 95)).heap.size) := by show _ ≤ _; simp
 go_wp2
 refine wp_gen (fun W => BoxM W w.heap.size #[.slice (some ⟨b1, off1, none⟩) n1 c1, .slice bv n2 c2] ∧ BoxM W (w.heap.size + 1) #[.slice none 0 0, .slice none 0 0] ∧ BoxM W (w0.heap.size + 1) #[.slice none 0 0, .slice none 0 0] ∧ Below w.heap.size w W ∧ w.heap.size + 2 ≤ W.heap.size) ⟨X0.out, X2.out, X3.out, B0.out, Z0.out⟩ ?_
 rintro W ⟨Y0, Y2, Y1, YB, YZ⟩
 clear X0 X2 X3 B0 Z0 X1w
 go_loopw [5] (fun i wr => ∃ (j : Nat) (a1 a2 : Option Addr) (q1 q2 : Nat), i = .int .i64 j ∧ j ≤ n1 ∧ Hid (OutM d (w.heap.size + 2) (fun g => (F g ∧ g < w.heap.size) ∨ w.heap.size + 2 ≤ g) wr (.slice a1 (fT j).length q1) (.slice a2 (fC j).length q2) (fT j) (fC j)) ∧ Hid (BoxM wr (w.heap.size + 1) #[.slice a1 (fT j).length q1, .slice a2 (fC j).length q2]) ∧ Hid (BoxM wr (w0.heap.size + 1) #[.slice none 0 0, .slice none 0 0]) ∧ Hid (BoxM wr w.heap.size #[.slice (some ⟨b1, off1, none⟩) n1 c1, .slice bv n2 c2]) ∧ Hid (Below w.heap.size w wr) ∧ Hid (w.heap.size + 2 ≤ wr.heap.size))
  (fun i _ => n1 - (intOf i).toNat)
 case atStart => exact ⟨0, none, none, 0, 0, rfl, Nat.zero_le _, by rw [T00.out, C00.out]; exact OutM.nil _ _ _ _, by rw [T00.out, C00.out]; exact Y2, Y1, Y0, YB, YZ⟩
 case round =>
  obtain ⟨j, a1, a2, q1, q2, rfl, hjn, OM, BX, BR, BM, BW, ZW⟩ := hrel
  clear Y0 Y1 Y2 YB YZ T00 C00
  by_cases hlt : j < n1
  ·have HG1 : Hid _ := HG.out j wr hlt BW.out
   have hk1 := KL.out j hlt
   have hs1 := SL.out j hjn
   have hs2 := SL.out (j + 1) hlt
   have ST1 : Hid _ := ST.out j
   have DC1 : Hid _ := DC.out j wr BW.out hlt
   have KD : Hid (TreeF d w (fun g => F g ∧ g < w.heap.size) (tvAt xs0 j) (m.1.getD j noTr)) := HE.out j hlt
   obtain ⟨r1, r2, r3, r4, s1, s2, s3, s4, hy⟩ := KD.out.treeAt.shape
   rw [hy] at DC1 HG1
   generalize (m.1.getD j noTr).leaf = z0 at *
   generalize (m.1.getD j noTr).pairs.length = z1 at *
   generalize (m.1.getD j noTr).cuts.length = z2 at *
   generalize (m.1.getD j noTr).kids.length = z3 at *
   generalize (m.1.getD j noTr).buf.length = z4 at *
   clear hy HG KL SL ST HE DC KD E1 E2 MB
   have hi1 : (0 : Int) ≤ (j : Int) := by omega
   have hi2 : (j : Int) < (n1 : Int) := by omega
   obtain ⟨x0, x1⟩ := BM.out.two
   obtain ⟨t0, t1, t2, t3, t4⟩ := DC1.out
   try simp only at t0 t1 t2 t3 t4
   clear DC1
   go_wp2_with fail
   refine Calls.mono HG1.out ?_
   rintro e w3 ⟨u1, u2, rfl, TG, RG, hb3⟩
   obtain ⟨ax, qx, hu1, _⟩ := (show Row w3 u1 (fx j).1.length _ from (TG.els.choose_spec.2).row).len
   obtain ⟨ay, qy, hu2, _⟩ := RG.row.len
   subst hu1
   subst hu2
   clear t0 t1 t2 t3 t4 x0 x1 HG1
   go_upto_if 35 with fail
   refine wp_gen (fun V => BoxM V w3.heap.size #[.slice ax (fx j).1.length qx, .slice ay (fx j).2.length qy] ∧ Below w3.heap.size w3 V) ⟨BoxM.start w3 _, al1 _ _⟩ ?_
   rintro wc ⟨VX0, VB0⟩
   have hz := ZW.out
   have hl3 := hb3.size
   have NT : Hid (∀ g, wrB (.slice a1 (fT j).length q1) g → g < wr.heap.size ∧ w.heap.size + 2 ≤ g) := fun g hg => by
    obtain ⟨xs', z1, z2, z3, z4, z5⟩ := OM.out
    exact ⟨(z2.lt g hg).2, (z2.lt g hg).1⟩
   have NC : Hid (∀ g, wrB (.slice a2 (fC j).length q2) g → g < wr.heap.size ∧ w.heap.size + 2 ≤ g) := fun g hg => ⟨(OM.out.rowC.lt g hg).2, (OM.out.rowC.lt g hg).1⟩
   have OFF : Hid (∀ g, (F g ∧ g < w.heap.size) ∨ wr.heap.size ≤ g → offB (fun g => (F g ∧ g < w.heap.size) ∨ w.heap.size + 2 ≤ g) (.slice a1 (fT j).length q1) (.slice a2 (fC j).length q2) g) := fun g hg => ⟨hg.elim (fun h => .inl h) (fun h => .inr (Nat.le_trans ZW.out h)), fun k => by have := NT.out g k; rcases hg with h | h <;> omega, fun k => by have := NC.out g k; rcases hg with h | h <;> omega⟩
   have hB' : Below wr.heap.size wr wc := Below.and hb3 VB0
   have XL : Hid (BoxM wc w3.heap.size #[.slice ax (fx j).1.length qx, .slice ay (fx j).2.length qy]) := VX0
   have XT : Hid (TreesF d wc (offB (fun g => (F g ∧ g < w.heap.size) ∨ w.heap.size + 2 ≤ g) (.slice a1 (fT j).length q1) (.slice a2 (fC j).length q2)) (.slice ax (fx j).1.length qx) (fx j).1) := (TG.below VB0).mono OFF.out
   have XC : Hid (RowF wc (offB (fun g => (F g ∧ g < w.heap.size) ∨ w.heap.size + 2 ≤ g) (.slice a1 (fT j).length q1) (.slice a2 (fC j).length q2)) (.slice ay (fx j).2.length qy) (fx j).2.length (flatI (fx j).2)) := (RG.below VB0).mono OFF.out
   have OM1 : Hid (OutM d (w.heap.size + 2) (fun g => (F g ∧ g < w.heap.size) ∨ w.heap.size + 2 ≤ g) wc (.slice a1 (fT j).length q1) (.slice a2 (fC j).length q2) (fT j) (fC j)) := OM.out.below hB'
   have BX1 : Hid (BoxM wc (w.heap.size + 1) #[.slice a1 (fT j).length q1, .slice a2 (fC j).length q2]) := BX.out.step hB' BX.out.lt
   have BR1 : Hid (BoxM wc (w0.heap.size + 1) #[.slice none 0 0, .slice none 0 0]) := BR.out.step hB' BR.out.lt
   have BM1 : Hid (BoxM wc w.heap.size #[.slice (some ⟨b1, off1, none⟩) n1 c1, .slice bv n2 c2]) := BM.out.step hB' BM.out.lt
   have BW1 : Hid (Below w.heap.size w wc) := Below.and BW.out hB'
   have ZW1 : Hid (w.heap.size + 2 ≤ wc.heap.size) := Nat.le_trans hz hB'.size
   have hL : w.heap.size + 2 ≤ w3.heap.size := Nat.le_trans hz hl3
   clear VX0 VB0 hB' NT NC OFF TG RG hb3 hl3 hz OM BX BR BM BW ZW
   generalize w3.heap.size = L at *
   go_cut [6] (fun s6 wx => s6 = .pointer (some ⟨L, 0, none⟩) ∧ ∃ (cs' : List Int) (a3 : Option Addr) (q3 : Nat), Hid (fC (j + 1) = cs' ++ (fx j).2) ∧ Hid (BoxM wx L #[.slice ax (fx j).1.length qx, .slice ay (fx j).2.length qy]) ∧ Hid (TreesF d wx (offB (fun g => (F g ∧ g < w.heap.size) ∨ w.heap.size + 2 ≤ g) (.slice a1 (fT j).length q1) (.slice a3 cs'.length q3)) (.slice ax (fx j).1.length qx) (fx j).1) ∧ Hid (RowF wx (offB (fun g => (F g ∧ g < w.heap.size) ∨ w.heap.size + 2 ≤ g) (.slice a1 (fT j).length q1) (.slice a3 cs'.length q3)) (.slice ay (fx j).2.length qy) (fx j).2.length (flatI (fx j).2)) ∧ Hid (OutM d (w.heap.size + 2) (fun g => (F g ∧ g < w.heap.size) ∨ w.heap.size + 2 ≤ g) wx (.slice a1 (fT j).length q1) (.slice a3 cs'.length q3) (fT j) cs') ∧ Hid (BoxM wx (w.heap.size + 1) #[.slice a1 (fT j).length q1, .slice a3 cs'.length q3]) ∧ Hid (BoxM wx (w0.heap.size + 1) #[.slice none 0 0, .slice none 0 0]) ∧ Hid (BoxM wx w.heap.size #[.slice (some ⟨b1, off1, none⟩) n1 c1, .slice bv n2 c2]) ∧ Hid (Below w.heap.size w wx) ∧ Hid (w.heap.size + 2 ≤ wx.heap.size))
   case first =>
    cases j with
    | zero =>
     have E : Hid _ := SC0.out 0 (by omega)
     go_wp2
     go_meet
     case rel => exact ⟨rfl, fC 0, a2, q2, E, XL, XT, XC, OM1, BX1, BR1, BM1, BW1, ZW1⟩
    | succ j =>
     have E : Hid _ := SC1.out j
     have CKj : Hid (∀ w1, Below w.heap.size w w1 → w1.cell? ⟨b2, off2 + j, none⟩ = some (.int .i64 (iAt m.2 j))) := fun w1 hb => (CK.out j w1 hb (by omega)).2
     have hbv : bv = some ⟨b2, off2, none⟩ := (CK.out j wc BW1.out (by omega)).1
     subst hbv
     generalize iAt m.2 j = x5 at *
     have kk := CKj.out wc BW1.out
     have hpos : (0 : Int) < ((j + 1 : Nat) : Int) := by omega
     have hpos2 : 0 < j + 1 := by omega
     have hin : j < n2 := by omega
     have hwk2 : IntKind.i64.wrap (j : Int) = (j : Int) := by rw [IntKind.wrap_i64]; omega
     have hb1 : (0 : Int) ≤ (j : Int) := by omega
     have hb2 : (j : Int) < (n2 : Int) := by omega
     have XLd : Hid (BoxM wc.drew L #[.slice ax (fx (j + 1)).1.length qx, .slice ay (fx (j + 1)).2.length qy]) := XL.out.drew
     have XTd : Hid (TreesF d wc.drew (offB (fun g => (F g ∧ g < w.heap.size) ∨ w.heap.size + 2 ≤ g) (.slice a1 (fT (j + 1)).length q1) (.slice a2 (fC (j + 1)).length q2)) (.slice ax (fx (j + 1)).1.length qx) (fx (j + 1)).1) := XT.out.below (Below.refl _ _).drew
     have XCd : Hid (RowF wc.drew (offB (fun g => (F g ∧ g < w.heap.size) ∨ w.heap.size + 2 ≤ g) (.slice a1 (fT (j + 1)).length q1) (.slice a2 (fC (j + 1)).length q2)) (.slice ay (fx (j + 1)).2.length qy) (fx (j + 1)).2.length (flatI (fx (j + 1)).2)) := XC.out.below (Below.refl _ _).drew
     have OMd : Hid (OutM d (w.heap.size + 2) (fun g => (F g ∧ g < w.heap.size) ∨ w.heap.size + 2 ≤ g) wc.drew (.slice a1 (fT (j + 1)).length q1) (.slice a2 (fC (j + 1)).length q2) (fT (j + 1)) (fC (j + 1))) := OM1.out.drew
     have BXd : Hid (BoxM wc.drew (w.heap.size + 1) #[.slice a1 (fT (j + 1)).length q1, .slice a2 (fC (j + 1)).length q2]) := BX1.out.drew
     have BRd : Hid (BoxM wc.drew (w0.heap.size + 1) #[.slice none 0 0, .slice none 0 0]) := BR1.out.drew
     have BMd : Hid (BoxM wc.drew w.heap.size #[.slice (some ⟨b1, off1, none⟩) n1 c1, .slice (some ⟨b2, off2, none⟩) n2 c2]) := BM1.out.drew
     have BWd : Hid (Below w.heap.size w wc.drew) := BW1.out.drew
     have ZWd : Hid (w.heap.size + 2 ≤ wc.drew.heap.size) := ZW1.out
     have hS : wc.drew.cell? ⟨w.heap.size + 1, 1, none⟩ = some (.slice a2 (fC (j + 1)).length q2) ∧ wc.drew.cell? ⟨w.heap.size, 1, none⟩ = some (.slice (some ⟨b2, off2, none⟩) n2 c2) ∧ wc.drew.cell? ⟨b2, off2 + j, none⟩ = some (.int .i64 x5) := ⟨BX1.out.two.2, BM1.out.two.2, kk⟩
     clear OM1 BX1 BR1 BM1 BW1 ZW1 XL XT XC kk ST1 CK SC0 SC1
     generalize hfC : fC (j + 1) = cs at *
     go_wp2_with fail
     refine wp_region_last (fun w' => w'.cell? ⟨w.heap.size + 1, 1, none⟩ = some (.slice a2 cs.length q2) ∧ w'.cell? ⟨w.heap.size, 1, none⟩ = some (.slice (some ⟨b2, off2, none⟩) n2 c2) ∧ w'.cell? ⟨b2, off2 + j, none⟩ = some (.int .i64 x5)) [_, _, _, _, _, _, _, _, _, _, _] _ rfl (by kernel_rfl) (by kernel_rfl) ?_
     generalize wc.drew = wd at *
     refine tq 0 rfl (by kernel_rfl) (fun _ _ _ h => h) (by assumption) rfl (by intro w h; go_simp <;> with_reducible rfl) ?_
     try simp only [Act.put, sA, sB, sC]
     refine tq 1 rfl (by kernel_rfl) (fun _ _ _ h => h) (by assumption) rfl (by intro w h; go_simp <;> with_reducible rfl) ?_
     try simp only [Act.put, sA, sB, sC]
     refine tq 2 rfl (by kernel_rfl) (fun _ _ _ h => h) (by assumption) rfl (by intro w h; go_simp <;> with_reducible rfl) ?_
     try simp only [Act.put, sA, sB, sC]
     refine tq 3 rfl (by kernel_rfl) (fun _ _ _ h => h) (by assumption) rfl (by intro w h; go_simp <;> with_reducible rfl) ?_
     try simp only [Act.put, sA, sB, sC]
     refine tq 4 rfl (by kernel_rfl) (fun _ _ _ h => h) (by assumption) rfl (by intro w h; go_simp <;> with_reducible rfl) ?_
     try simp only [Act.put, sA, sB, sC]
     refine tq 5 rfl (by kernel_rfl) (fun _ _ _ h => h) (by assumption) rfl (by intro w h; go_simp <;> with_reducible rfl) ?_
     try simp only [Act.put, sA, sB, sC]
     refine tq 6 rfl (by kernel_rfl) (fun _ _ _ h => h) (by assumption) rfl (by intro w h; go_simp <;> with_reducible rfl) ?_
     try simp only [Act.put, sA, sB, sC]
     refine tq 7 rfl (by kernel_rfl) (fun _ _ _ h => h) (by assumption) rfl (by intro w h; go_simp <;> with_reducible rfl) ?_
     try simp only [Act.put, sA, sB, sC]
     refine rq 8 (by kernel_rfl) rfl (fun K hK => ?_)
     go_simp
     refine hK.out _ _ ⟨cell_lowB (al1 wd _) (cell_lt hS.1) hS.1, cell_lowB (al1 wd _) (cell_lt hS.2.1) hS.2.1, cell_lowB (al1 wd _) (cell_lt hS.2.2) hS.2.2⟩ (fun hH => ?_)
     clear hK K
     try simp only [Act.put, sA, sB, sC]
     refine rq 9 (by kernel_rfl) rfl (fun K hK => ?_)
     have HR1 : Hid _ := room_of (n := cs.length) (bytes := 8) (by omega) (by decide)
     refine step_appE (wd.alloc (.cells #[.int .i64 x5] 3)) rfl _ _ 50 rfl (w.heap.size + 2) 3 j0 _ 1 8 Try.underlying50 hj0' hy0 hy1 hy2 rfl (by decide) (.slice a2 cs.length q2) cs.length (flatI cs) rfl (OMd.out.alloc _).rowC (.slice (some ⟨wd.heap.size, 0, none⟩) 1 1) 1 (flatI [x5]) rfl (Row.laid wd (flatI [x5]) 3 _ rfl) rfl (flatI_one _) HR1.out.1 HR1.out.2 (by simp; have := ZWd.out; omega) ?_
     intro v5 w5 A5
     have OM5 : OutM d (w.heap.size + 2) (fun g => (F g ∧ g < w.heap.size) ∨ w.heap.size + 2 ≤ g) w5 (.slice a1 (fT (j + 1)).length q1) v5 (fT (j + 1)) (cs ++ [x5]) := (OMd.out.alloc _).addC (ds := [x5]) A5
     obtain ⟨_, _, a3, q3, _, hv5⟩ := OM5.shape
     subst hv5
     have XT5 : Hid (TreesF d w5 (offB (fun g => (F g ∧ g < w.heap.size) ∨ w.heap.size + 2 ≤ g) (.slice a1 (fT (j + 1)).length q1) (.slice a3 (cs ++ [x5]).length q3)) (.slice ax (fx (j + 1)).1.length qx) (fx (j + 1)).1) := (XTd.out.below (al1 wd _)).off A5.2.1 (off_app_c A5).2 (off_app_c A5).1
     have XC5 : Hid (RowF w5 (offB (fun g => (F g ∧ g < w.heap.size) ∨ w.heap.size + 2 ≤ g) (.slice a1 (fT (j + 1)).length q1) (.slice a3 (cs ++ [x5]).length q3)) (.slice ay (fx (j + 1)).2.length qy) (fx (j + 1)).2.length (flatI (fx (j + 1)).2)) := (XCd.out.below (al1 wd _)).off (flatI_ne _).2 A5.2.1 (off_app_c A5).2 (off_app_c A5).1
     have CH : Chg (wrB (.slice a2 cs.length q2)) wd w5 := ((Chg.refl _ _).alloc _).trans A5.2.1 (fun _ _ h => h)
     have NW : ∀ g, wrB (.slice a2 cs.length q2) g → w.heap.size + 2 ≤ g := fun g hg => (OMd.out.rowC.lt g hg).1
     have XL5 : Hid (BoxM w5 L #[.slice ax (fx (j + 1)).1.length qx, .slice ay (fx (j + 1)).2.length qy]) := XLd.out.chg CH (OMd.out.rowC.ne_box (by decide) XLd.out)
     have BX5 : Hid (BoxM w5 (w.heap.size + 1) #[.slice a1 (fT (j + 1)).length q1, .slice a2 cs.length q2]) := BXd.out.chg CH (fun h => by have := NW _ h; omega)
     have BR5 : Hid (BoxM w5 (w0.heap.size + 1) #[.slice none 0 0, .slice none 0 0]) := BRd.out.chg CH (fun h => by have := NW _ h; omega)
     have BM5 : Hid (BoxM w5 w.heap.size #[.slice (some ⟨b1, off1, none⟩) n1 c1, .slice (some ⟨b2, off2, none⟩) n2 c2]) := BMd.out.chg CH (fun h => by have := NW _ h; omega)
     have BW5 : Hid (Below w.heap.size w w5) := BWd.out.trans (CH.below (fun g _ hg => by have := NW g hg; omega) (by have := ZWd.out; omega))
     have ZW5 : Hid (w.heap.size + 2 ≤ w5.heap.size) := Nat.le_trans ZWd.out CH.size
     have LN : Hid (L ≠ w.heap.size + 1) := fun h => by omega
     have OM5' : Hid _ := OM5
     have kk := CKj.out w5 BW5.out
     obtain ⟨m0, m1⟩ := BX5.out.two
     obtain ⟨f0, f1⟩ := BX5.out.free
     have m2 := BM5.out.two.2
     clear A5 OM5 CH NW hS hH
     refine hK.out _ _ ⟨m1, m2, kk⟩ (fun hH => ?_)
     clear hK K
     try simp only [Act.put, sA, sB, sC]
     refine tq 10 rfl (by kernel_rfl) (fun _ _ _ h => h) (by assumption) rfl (by intro w h; go_simp <;> with_reducible rfl) ?_
     try simp only [Act.put, sA, sB, sC]
     refine wpAnyH_done (by kernel_rfl) ?_ _
     show Oper.wp _ _ _ _ _ _
     go_simp
     have FIN : Hid (∀ v, BoxM (w5.setCell ⟨w.heap.size + 1, 1, none⟩ v) L #[.slice ax (fx (j + 1)).1.length qx, .slice ay (fx (j + 1)).2.length qy] ∧ TreesF d (w5.setCell ⟨w.heap.size + 1, 1, none⟩ v) (offB (fun g => (F g ∧ g < w.heap.size) ∨ w.heap.size + 2 ≤ g) (.slice a1 (fT (j + 1)).length q1) (.slice a3 (cs ++ [x5]).length q3)) (.slice ax (fx (j + 1)).1.length qx) (fx (j + 1)).1 ∧ RowF (w5.setCell ⟨w.heap.size + 1, 1, none⟩ v) (offB (fun g => (F g ∧ g < w.heap.size) ∨ w.heap.size + 2 ≤ g) (.slice a1 (fT (j + 1)).length q1) (.slice a3 (cs ++ [x5]).length q3)) (.slice ay (fx (j + 1)).2.length qy) (fx (j + 1)).2.length (flatI (fx (j + 1)).2) ∧ OutM d (w.heap.size + 2) (fun g => (F g ∧ g < w.heap.size) ∨ w.heap.size + 2 ≤ g) (w5.setCell ⟨w.heap.size + 1, 1, none⟩ v) (.slice a1 (fT (j + 1)).length q1) (.slice a3 (cs ++ [x5]).length q3) (fT (j + 1)) (cs ++ [x5]) ∧ BoxM (w5.setCell ⟨w.heap.size + 1, 1, none⟩ v) (w0.heap.size + 1) #[.slice none 0 0, .slice none 0 0] ∧ BoxM (w5.setCell ⟨w.heap.size + 1, 1, none⟩ v) w.heap.size #[.slice (some ⟨b1, off1, none⟩) n1 c1, .slice (some ⟨b2, off2, none⟩) n2 c2] ∧ Below w.heap.size w (w5.setCell ⟨w.heap.size + 1, 1, none⟩ v) ∧ w.heap.size + 2 ≤ (w5.setCell ⟨w.heap.size + 1, 1, none⟩ v).heap.size) := fun v =>
      ⟨XL5.out.chg (chg_set1 w5 (w.heap.size + 1) 1 v) LN.out, XT5.out.chg (chg_set1 w5 (w.heap.size + 1) 1 v) (fun g hg k => (PG.out g (.inr k)).1 hg.1), XC5.out.chg (chg_set1 w5 (w.heap.size + 1) 1 v) (fun g hg k => (PG.out g (.inr k)).1 hg.1), OutM.chg OM5'.out (chg_set1 w5 (w.heap.size + 1) 1 v) (fun g hg => PG.out g (.inr hg)), BR5.out.chg (chg_set1 w5 (w.heap.size + 1) 1 v) (by omega), BM5.out.chg (chg_set1 w5 (w.heap.size + 1) 1 v) (by omega), BW5.out.setCell (p := ⟨w.heap.size + 1, 1, none⟩) (by show w.heap.size ≤ w.heap.size + 1; omega) _, by simpa using ZW5.out⟩
     clear m0 m1 m2 f0 f1 hH kk
     go_wp2_with fail
     go_meet
     case rel => exact ⟨rfl, cs ++ [x5], a3, q3, E, (FIN.out _).1, (FIN.out _).2.1, (FIN.out _).2.2.1, (FIN.out _).2.2.2.1, (by have := BX5.out.set1 (.slice a3 (cs.length + 1) q3); rw [show (cs ++ [x5]).length = cs.length + 1 by simp]; exact this), (FIN.out _).2.2.2.2.1, (FIN.out _).2.2.2.2.2.1, (FIN.out _).2.2.2.2.2.2.1, (FIN.out _).2.2.2.2.2.2.2⟩
   case rest =>
   obtain ⟨rfl, cs', a3, q3, EC, XL2, XT2, XC2, OM2, BX2, BR2, BM2, BW2, ZW2⟩ := hcut
   clear XL XT XC OM1 BX1 BR1 BM1 BW1 ZW1 CK SC0 SC1
   have hcl : cs'.length ≤ 1000000 := by
    have := hs2.2
    rw [EC.out, List.length_append] at this
    omega
   obtain ⟨ys, ey, ry⟩ := XT2.out.els
   obtain ⟨xs, y1, y2, y3, y4, y5⟩ := OM2.out
   have gy : Hid (∀ y ∈ flatT ys, y.oneCell' = true) := flatT_oneF ey.2
   have RY : Hid (Row wc (.slice ax (fx j).1.length qx) (fx j).1.length (flatT ys)) := ry.row
   have EY : Hid (Els d wc (offB (fun g => (F g ∧ g < w.heap.size) ∨ w.heap.size + 2 ≤ g) (.slice a1 (fT j).length q1) (.slice a3 cs'.length q3)) ys (fx j).1) := ey
   have HX : Hid (xs.length = (fT j).length ∧ OwnE wc (w.heap.size + 2) 54 5 (.slice a1 (fT j).length q1) xs.length (flatT xs) ∧ ∀ i, i < xs.length → TreeF d wc (offB (fun g => (F g ∧ g < w.heap.size) ∨ w.heap.size + 2 ≤ g) (.slice a1 (fT j).length q1) (.slice a3 cs'.length q3)) (tvAt xs i) ((fT j).getD i noTr)) := ⟨y1, y2, y5⟩
   have FLY : Hid ((flatT ys).length = (fx j).1.length * 5) := by show _ = _; rw [flatT_length, ey.1]
   have HR1 : Hid (xs.length + (fx j).1.length ≤ maxLen ∧ (xs.length + (fx j).1.length) * 104 ≤ 140737488355328) := ⟨by unfold maxLen; omega, by omega⟩
   have HR2 : Hid (cs'.length + (fx j).2.length ≤ maxLen ∧ (cs'.length + (fx j).2.length) * 8 ≤ 140737488355328) := ⟨by unfold maxLen; omega, by omega⟩
   have FLC : Hid ((flatI (fx j).2).length = (fx j).2.length * 1) := by show _ = _; rw [flatI_length]; omega
   have NW1 : Hid (∀ g, wrB (.slice a1 (fT j).length q1) g → w.heap.size + 2 ≤ g) := fun g hg => (y2.lt g hg).1
   obtain ⟨l0, l1⟩ := BX2.out.two
   obtain ⟨e0, e1⟩ := XL2.out.two
   clear ey ry y1 y2 y3 y4 y5
   generalize hL1 : (fx j).1.length = lx at *
   generalize hL2 : (fx j).2.length = ly at *
   go_wp2_with (at_builtin; refine list_appE wc rfl _ _ 51 rfl (w.heap.size + 2) 54 i0 _ 5 104 Try.underlying51 hi0 hz0 hz1 hz2 rfl (by decide) (.slice a1 (fT j).length q1) xs.length (flatT xs) rfl HX.out.2.1 (.slice ax lx qx) lx (flatT ys) rfl RY.out FLY.out gy.out HR1.out.1 HR1.out.2 ZW2.out ?_)
   intro v5 w5 A5
   have OM5 : OutM d (w.heap.size + 2) (fun g => (F g ∧ g < w.heap.size) ∨ w.heap.size + 2 ≤ g) w5 v5 (.slice a3 cs'.length q3) (fT j ++ (fx j).1) cs' := OutM.addT (us := (fx j).1) OM2.out (m := lx) (by rw [EY.out.1, hL1]) EY.out.1 EY.out.2 HX.out.1 HX.out.2.2 A5
   obtain ⟨a5, q5, _, _, hv5, _⟩ := OM5.shape
   subst hv5
   have XC5 : Hid (RowF w5 (offB (fun g => (F g ∧ g < w.heap.size) ∨ w.heap.size + 2 ≤ g) (.slice a5 (fT j ++ (fx j).1).length q5) (.slice a3 cs'.length q3)) (.slice ay ly qy) ly (flatI (fx j).2)) := XC2.out.off (by rw [← hL2]; exact (flatI_ne _).2) A5.2.1 (off_app_t A5).2 (off_app_t A5).1
   have XL5 : Hid (BoxM w5 L #[.slice ax lx qx, .slice ay ly qy]) := XL2.out.chg A5.2.1 (OwnE.ne_box HX.out.2.1 (by decide) XL2.out)
   have BX5 : Hid (BoxM w5 (w.heap.size + 1) #[.slice a1 (fT j).length q1, .slice a3 cs'.length q3]) := BX2.out.chg A5.2.1 (fun h => by have := NW1.out _ h; omega)
   have BR5 : Hid (BoxM w5 (w0.heap.size + 1) #[.slice none 0 0, .slice none 0 0]) := BR2.out.chg A5.2.1 (fun h => by have := NW1.out _ h; omega)
   have BM5 : Hid (BoxM w5 w.heap.size #[.slice (some ⟨b1, off1, none⟩) n1 c1, .slice bv n2 c2]) := BM2.out.chg A5.2.1 (fun h => by have := NW1.out _ h; omega)
   have BW5 : Hid (Below w.heap.size w w5) := BW2.out.trans (A5.2.1.below (fun g _ hg => by have := NW1.out g hg; omega) (by have := ZW2.out; omega))
   have ZW5 : Hid (w.heap.size + 2 ≤ w5.heap.size) := Nat.le_trans ZW2.out A5.2.1.size
   have OM5' : Hid _ := OM5
   obtain ⟨m0, m1⟩ := BX5.out.two
   obtain ⟨f0, f1⟩ := BX5.out.free
   obtain ⟨k0, k1⟩ := XL5.out.two
   have FIN : Hid (∀ v, BoxM (w5.setCell ⟨w.heap.size + 1, 0, none⟩ v) L #[.slice ax lx qx, .slice ay ly qy] ∧ RowF (w5.setCell ⟨w.heap.size + 1, 0, none⟩ v) (offB (fun g => (F g ∧ g < w.heap.size) ∨ w.heap.size + 2 ≤ g) (.slice a5 (fT j ++ (fx j).1).length q5) (.slice a3 cs'.length q3)) (.slice ay ly qy) ly (flatI (fx j).2) ∧ OutM d (w.heap.size + 2) (fun g => (F g ∧ g < w.heap.size) ∨ w.heap.size + 2 ≤ g) (w5.setCell ⟨w.heap.size + 1, 0, none⟩ v) (.slice a5 (fT j ++ (fx j).1).length q5) (.slice a3 cs'.length q3) (fT j ++ (fx j).1) cs' ∧ BoxM (w5.setCell ⟨w.heap.size + 1, 0, none⟩ v) (w0.heap.size + 1) #[.slice none 0 0, .slice none 0 0] ∧ BoxM (w5.setCell ⟨w.heap.size + 1, 0, none⟩ v) w.heap.size #[.slice (some ⟨b1, off1, none⟩) n1 c1, .slice bv n2 c2] ∧ Below w.heap.size w (w5.setCell ⟨w.heap.size + 1, 0, none⟩ v) ∧ w.heap.size + 2 ≤ (w5.setCell ⟨w.heap.size + 1, 0, none⟩ v).heap.size) := fun v =>
    ⟨XL5.out.chg (chg_set1 w5 (w.heap.size + 1) 0 v) (by omega), XC5.out.chg (chg_set1 w5 (w.heap.size + 1) 0 v) (fun g hg k => (PG.out g (.inr k)).1 hg.1), OutM.chg OM5'.out (chg_set1 w5 (w.heap.size + 1) 0 v) (fun g hg => PG.out g (.inr hg)), BR5.out.chg (chg_set1 w5 (w.heap.size + 1) 0 v) (by omega), BM5.out.chg (chg_set1 w5 (w.heap.size + 1) 0 v) (by omega), BW5.out.setCell (p := ⟨w.heap.size + 1, 0, none⟩) (by show w.heap.size ≤ w.heap.size + 1; omega) _, by simpa using ZW5.out⟩
   have hlen : (fT j ++ (fx j).1).length = (fT j).length + lx := by rw [List.length_append, hL1]
   rw [hlen] at FIN
   have BX5' : Hid (BoxM (w5.setCell ⟨w.heap.size + 1, 0, none⟩ (.slice a5 ((fT j).length + lx) q5)) (w.heap.size + 1) #[.slice a5 ((fT j).length + lx) q5, .slice a3 cs'.length q3]) := BX5.out.set0 _
   have NC5 : Hid (∀ g, wrB (.slice a3 cs'.length q3) g → w.heap.size + 2 ≤ g) := fun g hg => ((FIN.out (.slice a5 ((fT j).length + lx) q5)).2.2.1.rowC.lt g hg).1
   have OM6' : Hid (OutM d (w.heap.size + 2) (fun g => (F g ∧ g < w.heap.size) ∨ w.heap.size + 2 ≤ g) (w5.setCell ⟨w.heap.size + 1, 0, none⟩ (.slice a5 ((fT j).length + lx) q5)) (.slice a5 ((fT j).length + lx) q5) (.slice a3 cs'.length q3) (fT j ++ (fx j).1) cs') := (FIN.out (.slice a5 ((fT j).length + lx) q5)).2.2.1
   have XC6 : Hid (Row (w5.setCell ⟨w.heap.size + 1, 0, none⟩ (.slice a5 ((fT j).length + lx) q5)) (.slice ay ly qy) ly (flatI (fx j).2)) := (FIN.out (.slice a5 ((fT j).length + lx) q5)).2.1.row
   have BR6 : Hid (BoxM (w5.setCell ⟨w.heap.size + 1, 0, none⟩ (.slice a5 ((fT j).length + lx) q5)) (w0.heap.size + 1) #[.slice none 0 0, .slice none 0 0]) := (FIN.out (.slice a5 ((fT j).length + lx) q5)).2.2.2.1
   have BM6 : Hid (BoxM (w5.setCell ⟨w.heap.size + 1, 0, none⟩ (.slice a5 ((fT j).length + lx) q5)) w.heap.size #[.slice (some ⟨b1, off1, none⟩) n1 c1, .slice bv n2 c2]) := (FIN.out (.slice a5 ((fT j).length + lx) q5)).2.2.2.2.1
   have BW6 : Hid (Below w.heap.size w (w5.setCell ⟨w.heap.size + 1, 0, none⟩ (.slice a5 ((fT j).length + lx) q5))) := (FIN.out (.slice a5 ((fT j).length + lx) q5)).2.2.2.2.2.1
   have ZW6 : Hid (w.heap.size + 2 ≤ (w5.setCell ⟨w.heap.size + 1, 0, none⟩ (.slice a5 ((fT j).length + lx) q5)).heap.size) := (FIN.out (.slice a5 ((fT j).length + lx) q5)).2.2.2.2.2.2
   clear FIN A5 OM5 XT2 XC2 XL2 BX2 BR2 BM2 BW2 OM2 ZW2 l0 l1 e0 e1 HX EY RY gy FLY HR1 NW1 OM5' XC5 XL5 BR5 BM5 BW5 ZW5
   go_wp2_with (at_builtin; refine list_appE (w5.setCell ⟨w.heap.size + 1, 0, none⟩ (.slice a5 ((fT j).length + lx) q5)) rfl _ _ 50 rfl (w.heap.size + 2) 3 j0 _ 1 8 Try.underlying50 hj0' hy0 hy1 hy2 rfl (by decide) (.slice a3 cs'.length q3) cs'.length (flatI cs') rfl OM6'.out.rowC (.slice ay ly qy) ly (flatI (fx j).2) rfl XC6.out FLC.out (flatI_one _) HR2.out.1 HR2.out.2 ZW6.out ?_)
   intro v6 w6 A6
   clear m0 m1 f0 f1 k0 k1
   generalize (w5.setCell ⟨w.heap.size + 1, 0, none⟩ (.slice a5 ((fT j).length + lx) q5)) = w5' at *
   have A6' := A6
   rw [← hL2] at A6'
   have OM7 : OutM d (w.heap.size + 2) (fun g => (F g ∧ g < w.heap.size) ∨ w.heap.size + 2 ≤ g) w6 (.slice a5 ((fT j).length + lx) q5) v6 (fT j ++ (fx j).1) (cs' ++ (fx j).2) := OutM.addC (ds := (fx j).2) OM6'.out A6'
   obtain ⟨_, _, a6, q6, _, hv6⟩ := OM7.shape
   rw [← EC.out] at OM7 hv6
   subst hv6
   have BX7 : Hid (BoxM w6 (w.heap.size + 1) #[.slice a5 ((fT j).length + lx) q5, .slice a3 cs'.length q3]) := BX5'.out.chg A6.2.1 (fun h => by have := NC5.out _ h; omega)
   have BR7 : Hid (BoxM w6 (w0.heap.size + 1) #[.slice none 0 0, .slice none 0 0]) := BR6.out.chg A6.2.1 (fun h => by have := NC5.out _ h; omega)
   have BM7 : Hid (BoxM w6 w.heap.size #[.slice (some ⟨b1, off1, none⟩) n1 c1, .slice bv n2 c2]) := BM6.out.chg A6.2.1 (fun h => by have := NC5.out _ h; omega)
   have BW7 : Hid (Below w.heap.size w w6) := BW6.out.trans (A6.2.1.below (fun g _ hg => by have := NC5.out g hg; omega) (by have := ZW6.out; omega))
   have ZW7 : Hid (w.heap.size + 2 ≤ w6.heap.size) := Nat.le_trans ZW6.out A6.2.1.size
   have OM7' : Hid _ := OM7
   obtain ⟨m0, m1⟩ := BX7.out.two
   obtain ⟨f0, f1⟩ := BX7.out.free
   have FIN : Hid (∀ v, OutM d (w.heap.size + 2) (fun g => (F g ∧ g < w.heap.size) ∨ w.heap.size + 2 ≤ g) (w6.setCell ⟨w.heap.size + 1, 1, none⟩ v) (.slice a5 ((fT j).length + lx) q5) (.slice a6 (fC (j + 1)).length q6) (fT j ++ (fx j).1) (fC (j + 1)) ∧ BoxM (w6.setCell ⟨w.heap.size + 1, 1, none⟩ v) (w0.heap.size + 1) #[.slice none 0 0, .slice none 0 0] ∧ BoxM (w6.setCell ⟨w.heap.size + 1, 1, none⟩ v) w.heap.size #[.slice (some ⟨b1, off1, none⟩) n1 c1, .slice bv n2 c2] ∧ Below w.heap.size w (w6.setCell ⟨w.heap.size + 1, 1, none⟩ v) ∧ w.heap.size + 2 ≤ (w6.setCell ⟨w.heap.size + 1, 1, none⟩ v).heap.size) := fun v =>
    ⟨OutM.chg OM7'.out (chg_set1 w6 (w.heap.size + 1) 1 v) (fun g hg => PG.out g (.inr hg)), BR7.out.chg (chg_set1 w6 (w.heap.size + 1) 1 v) (by omega), BM7.out.chg (chg_set1 w6 (w.heap.size + 1) 1 v) (by omega), BW7.out.setCell (p := ⟨w.heap.size + 1, 1, none⟩) (by show w.heap.size ≤ w.heap.size + 1; omega) _, by simpa using ZW7.out⟩
   clear A6 A6' OM7 OM7' BR7 BM7 BW7 ZW7 BX5' NC5 OM6' XC6 BR6 BM6 BW6 ZW6
   have hST : fT (j + 1) = fT j ++ (fx j).1 := ST1.out
   go_wp2
   go_roundw
   case rel => exact ⟨j + 1, a5, a6, q5, q6, by go_num, by omega, (by rw [hST, hlen]; exact (FIN.out _).1), (by rw [hST, hlen]; exact BX7.out.set1 _), (FIN.out _).2.1, (FIN.out _).2.2.1, (FIN.out _).2.2.2.1, (FIN.out _).2.2.2.2⟩
   case measure => simp [intOf]; omega
  ·have hjj : j = n1 := by omega
   subst hjj
   obtain ⟨l0, l1⟩ := BX.out.two
   have TRS : TreesF d wr (fun g => (F g ∧ g < w.heap.size) ∨ w.heap.size + 2 ≤ g) (.slice a1 (fT j).length q1) (fT j) ∧ RowF wr (fun g => (F g ∧ g < w.heap.size) ∨ w.heap.size + 2 ≤ g) (.slice a2 (fC j).length q2) (fC j).length (flatI (fC j)) := OM.out.trees (fun g hg => .inr hg)
   obtain ⟨TA, RA⟩ := TRS
   have hk : ∀ g, (F g ∧ g < w.heap.size) ∨ w.heap.size + 2 ≤ g → ¬ g = w0.heap.size + 1 ∧ (F0 g ∨ w0.heap.size ≤ g) := fun g hg => by
    rcases hg with ⟨h1, h2⟩ | h
    ·exact PF.out g h1
    ·exact ⟨by omega, .inr (by omega)⟩
   have HK : Hid (∀ g, (F g ∧ g < w.heap.size) ∨ w.heap.size + 2 ≤ g → ¬ g = w0.heap.size + 1 ∧ (F0 g ∨ w0.heap.size ≤ g)) := hk
   have TA' : Hid (TreesF d wr (fun g => (F g ∧ g < w.heap.size) ∨ w.heap.size + 2 ≤ g) (.slice a1 (fT j).length q1) (fT j)) := TA
   have RA' : Hid (RowF wr (fun g => (F g ∧ g < w.heap.size) ∨ w.heap.size + 2 ≤ g) (.slice a2 (fC j).length q2) (fC j).length (flatI (fC j))) := RA
   obtain ⟨x0, x1⟩ := BM.out.two
   have hsl := SL.out j (Nat.le_refl _)
   clear HG KL SL ST HE DC CK SC0 SC1 hk OM BM
   by_cases h4 : 4 < (fT j).length
   ·have EE : Hid _ := E1.out h4
    have HPK : Hid _ := l4Pack_any d _ _ _ (fT j, fC j) wr TA RA MB.out.1.1 h4 (by have := hsl.1; show (fT j).length ≤ _; omega)
    simp only at HPK
    generalize packM (fT j, fC j) = PK at *
    have h4' : (4 : Int) < ((fT j).length : Int) := by omega
    clear TA RA TA' RA' E1 E2 MB
    generalize (fT j).length = l5 at *
    generalize (fC j).length = l6 at *
    go_wp2_with fail
    refine Calls.mono HPK.out ?_
    rintro e w9 ⟨u1, u2, rfl, TP, RPP, hb9⟩
    obtain ⟨az, qz, hu1, _⟩ := (show Row w9 u1 PK.1.length _ from (TP.els.choose_spec.2).row).len
    obtain ⟨ay2, qy2, hu2, _⟩ := RPP.row.len
    subst hu1
    subst hu2
    have BR9 : Hid (BoxM w9 (w0.heap.size + 1) #[.slice none 0 0, .slice none 0 0]) := BR.out.step hb9 BR.out.lt
    have FIN : Hid (∀ v v', TreesF (d + 1) (set2 w9 (w0.heap.size + 1) v v') (fun b => F0 b ∨ w0.heap.size ≤ b) (.slice az PK.1.length qz) PK.1 ∧ RowF (set2 w9 (w0.heap.size + 1) v v') (fun b => F0 b ∨ w0.heap.size ≤ b) (.slice ay2 PK.2.length qy2) PK.2.length (flatI PK.2) ∧ Below w0.heap.size w0 (set2 w9 (w0.heap.size + 1) v v')) := fun v v' => by
     have hc := chg_set2 w9 (w0.heap.size + 1) v v'
     have hz := ZW.out
     have hbw := BW.out.size
     have hz9 := hb9.size
     have hk2 : ∀ g, ((fun g => (F g ∧ g < w.heap.size) ∨ w.heap.size + 2 ≤ g) g ∨ wr.heap.size ≤ g) → ¬ g = w0.heap.size + 1 ∧ (F0 g ∨ w0.heap.size ≤ g) := fun g hg => by
      rcases hg with h | h
      ·exact HK.out g h
      ·exact ⟨by omega, .inr (by omega)⟩
     exact ⟨(TP.chg hc (fun g hg => (hk2 g hg).1)).mono (fun g hg => (hk2 g hg).2), (RPP.chg hc (fun g hg => (hk2 g hg).1)).mono (fun g hg => (hk2 g hg).2), (Below.and BW0.out (Below.and BW.out hb9)).trans (hc.below (fun g _ hg => by omega) (by omega))⟩
    obtain ⟨m0, m1⟩ := BR9.out.two
    obtain ⟨f0, f1⟩ := BR9.out.free
    clear TP RPP hb9 HPK l0 l1 BX BR
    generalize PK.1.length = l1 at *
    generalize hl2 : PK.2.length = l2 at *
    go_wp2
    refine bodyPost_ret (v := .agg #[.slice az l1 qz, .slice ay2 l2 qy2]) (by simp [results, Try.results52, go_sem, m0, m1]) rfl ⟨_, _, rfl, ?_, ?_, (FIN.out _ _).2.2⟩
    ·rw [EE.out]
     exact (FIN.out _ _).1
    ·rw [EE.out, hl2]
     exact (FIN.out _ _).2.1
   ·have EE : Hid _ := E2.out h4
    have h4' : ¬ (4 : Int) < ((fT j).length : Int) := by omega
    have BRA : Hid (BoxM (wr.alloc (.cells #[.bool false, .slice none 0 0, .slice a2 (fC j).length q2, .slice a1 (fT j).length q1, .slice none 0 0] 54)) (w0.heap.size + 1) #[.slice none 0 0, .slice none 0 0]) := BR.out.alloc _
    have FIN : Hid (∀ v v', TreesF (d + 1) (set2 (wr.alloc (.cells #[.bool false, .slice none 0 0, .slice a2 (fC j).length q2, .slice a1 (fT j).length q1, .slice none 0 0] 54)) (w0.heap.size + 1) v v') (fun b => F0 b ∨ w0.heap.size ≤ b) (.slice (some ⟨wr.heap.size, 0, none⟩) 1 1) [⟨false, [], fC j, fT j, []⟩] ∧ Below w0.heap.size w0 (set2 (wr.alloc (.cells #[.bool false, .slice none 0 0, .slice a2 (fC j).length q2, .slice a1 (fT j).length q1, .slice none 0 0] 54)) (w0.heap.size + 1) v v')) := fun v v' => by
     have hz := ZW.out
     have hbw := BW.out.size
     have hc := chg_set2 (wr.alloc (.cells #[.bool false, .slice none 0 0, .slice a2 (fC j).length q2, .slice a1 (fT j).length q1, .slice none 0 0] 54)) (w0.heap.size + 1) v v'
     refine ⟨⟨[⟨false, .slice none 0 0, .slice a2 (fC j).length q2, .slice a1 (fT j).length q1, .slice none 0 0⟩], rfl, ?_, fun i hi => ?_⟩, (Below.and BW0.out (Below.and BW.out (al1 wr _))).trans (hc.below (fun g _ hg => by omega) (by simp; omega))⟩
     ·exact ((RowF.laid wr [.bool false, .slice none 0 0, .slice a2 (fC j).length q2, .slice a1 (fT j).length q1, .slice none 0 0] 54 _ rfl).chg hc (fun g hg k => by omega)).mono (fun g hg => .inr (by omega))
     ·have hi0 : i = 0 := by simp at hi; omega
      subst hi0
      exact TreeF.mk rfl (RowF.nil _ _) (((RA'.out.below (al1 wr _)).chg hc (fun g hg => (HK.out g hg).1)).mono (fun g hg => (HK.out g hg).2)) (RowF.nil _ _) (((TA'.out.below (al1 wr _)).chg hc (fun g hg => (HK.out g hg).1)).mono (fun g hg => (HK.out g hg).2))
    obtain ⟨m0, m1⟩ := BRA.out.two
    obtain ⟨f0, f1⟩ := BRA.out.free
    clear TA RA TA' RA' E1 E2 MB BX BR
    generalize (fT j).length = l5 at *
    generalize (fC j).length = l6 at *
    go_wp2
    refine bodyPost_ret (v := .agg #[.slice (some ⟨wr.heap.size, 0, none⟩) 1 1, .slice none 0 0]) (by simp [results, Try.results52, go_sem, m0, m1]) rfl ⟨_, _, rfl, ?_, ?_, (FIN.out _ _).2⟩
    ·show TreesF (d + 1) _ _ _ (endD (bothM (fun i => drainM d (m.1.getD i noTr)) m)).1
     rw [EE.out]
     exact (FIN.out _ _).1
    ·show RowF _ _ _ (endD (bothM (fun i => drainM d (m.1.getD i noTr)) m)).2.length (flatI (endD (bothM (fun i => drainM d (m.1.getD i noTr)) m)).2)
     rw [EE.out]
     exact RowF.nil _ _

theorem drain_all : ∀ d, DrainIs d
 | 0 => fun _ _ _ _ _ h _ => h.elim
 | d + 1 => by
  intro F x T w ht hs hn
  rcases hs with ⟨h1, rfl, h2, h3⟩ | ⟨h1, h0, h2, h3, h4, h5, h6⟩
  ·rw [drainM, if_pos h1]
   exact drain_leaf 0 F x T w ht h1
  ·rw [drainM, if_neg (by rw [h1]; simp)]
   refine drain_fork (drain_all d) (down_of (give_all d)) F x T w ht h1 ⟨h4, h6⟩ h2 ?_
   rw [wt, if_neg (by rw [h1]; simp)] at hn
   exact hn
end
end Go.Proofs.Ytekcnibohikmdaa
