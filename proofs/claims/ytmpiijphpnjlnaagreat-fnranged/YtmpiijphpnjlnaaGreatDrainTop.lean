/-
  The contract of the model's Drain.
-/
import Derived.Test.YtmpiijphpnjlnaaGreatInjMath
namespace Go.Proofs.YtmpiijphpnjlnaaGreat
open Go.RowKit

set_option maxRecDepth 100000 in
set_option maxHeartbeats 4000000 in
theorem specDrain_any (n : Nat) (x : TV) (T : Tr) (w : World) (ht : TreeAt n w x T) (hsz : sizeT n T ≤ 1099511627776) :
    Calls Tryz.prog 80 #[x.val] w fun e w' => ∃ (y : TV) (N : Nat), e = .returned y.val ∧ TreeD N w' (fun g => w.heap.size ≤ g) y (drnF T) ∧ Below w.heap.size w w' := by
  obtain ⟨a1, a2, a3, a4, q1, q2, q3, q4, hx⟩ := ht.shape
  subst hx
  have HO : Hid (∀ w1, Below w.heap.size w w1 → Calls Tryz.prog 14 #[.agg #[.bool T.leaf, .slice a1 T.pairs.length q1, .slice a2 T.cuts.length q2, .slice a3 T.kids.length q3, .slice a4 T.buf.length q4]] w1 fun e w' => e = .returned (.bool (okT T)) ∧ Below w1.heap.size w1 w') := fun w1 hb => specTreeOk_any n ⟨T.leaf, .slice a1 T.pairs.length q1, .slice a2 T.cuts.length q2, .slice a3 T.kids.length q3, .slice a4 T.buf.length q4⟩ T w1 (ht.below hb) hsz
  have HC : Hid (∀ w1, Below w.heap.size w w1 → Calls Tryz.prog 56 #[.agg #[.bool T.leaf, .slice a1 T.pairs.length q1, .slice a2 T.cuts.length q2, .slice a3 T.kids.length q3, .slice a4 T.buf.length q4]] w1 fun e w' => ∃ y : TV, e = .returned y.val ∧ TreeD n w' (fun g => w1.heap.size ≤ g) y T ∧ Below w1.heap.size w1 w') := fun w1 hb => copy_all n ⟨T.leaf, .slice a1 T.pairs.length q1, .slice a2 T.cuts.length q2, .slice a3 T.kids.length q3, .slice a4 T.buf.length q4⟩ T w1 (ht.below hb) hsz
  show Calls Tryz.prog 80 #[.agg #[.bool T.leaf, .slice a1 T.pairs.length q1, .slice a2 T.cuts.length q2, .slice a3 T.kids.length q3, .slice a4 T.buf.length q4]] w _
  clear ht
  generalize T.leaf = lf at *
  generalize T.pairs.length = n1 at *
  generalize T.cuts.length = n2 at *
  generalize T.kids.length = n3 at *
  generalize T.buf.length = n4 at *
  have B0 : Hid (Below w.heap.size w ((w.alloc (.cells #[.bool lf, .slice a1 n1 q1, .slice a2 n2 q2, .slice a3 n3 q3, .slice a4 n4 q4] 29)).alloc (.cells #[.bool false, .slice none 0 0, .slice none 0 0, .slice none 0 0, .slice none 0 0] 29))) := al2 _ _ _
  have S0 : Hid (OneAt ((w.alloc (.cells #[.bool lf, .slice a1 n1 q1, .slice a2 n2 q2, .slice a3 n3 q3, .slice a4 n4 q4] 29)).alloc (.cells #[.bool false, .slice none 0 0, .slice none 0 0, .slice none 0 0, .slice none 0 0] 29)) w.heap.size #[.bool lf, .slice a1 n1 q1, .slice a2 n2 q2, .slice a3 n3 q3, .slice a4 n4 q4]) := (OneAt.start w _).step (al1 _ _)
  have X0 : Hid (OneAt ((w.alloc (.cells #[.bool lf, .slice a1 n1 q1, .slice a2 n2 q2, .slice a3 n3 q3, .slice a4 n4 q4] 29)).alloc (.cells #[.bool false, .slice none 0 0, .slice none 0 0, .slice none 0 0, .slice none 0 0] 29)) (w.heap.size + 1) #[.bool false, .slice none 0 0, .slice none 0 0, .slice none 0 0, .slice none 0 0]) := by
    have := OneAt.start (w.alloc (.cells #[.bool lf, .slice a1 n1 q1, .slice a2 n2 q2, .slice a3 n3 q3, .slice a4 n4 q4] 29)) #[.bool false, .slice none 0 0, .slice none 0 0, .slice none 0 0, .slice none 0 0]
    rw [World.size_alloc] at this
    exact this
  have Z0 : Hid (w.heap.size + 2 ≤ ((w.alloc (.cells #[.bool lf, .slice a1 n1 q1, .slice a2 n2 q2, .slice a3 n3 q3, .slice a4 n4 q4] 29)).alloc (.cells #[.bool false, .slice none 0 0, .slice none 0 0, .slice none 0 0, .slice none 0 0] 29)).heap.size) := by show _ ≤ _; simp
  obtain ⟨c0, c1, c2, c3, c4⟩ := box_cells5 S0.out
  have HO1 : Hid _ := HO.out _ B0.out
  go_enter Tryz.func80, Tryz.ntmps80
  go_wp2_with fail
  refine Calls.mono HO1.out ?_
  rintro e w1 ⟨rfl, hb1⟩
  have B1 : Hid (Below w.heap.size w w1) := Below.and B0.out hb1
  have S1 : Hid (OneAt w1 w.heap.size #[.bool lf, .slice a1 n1 q1, .slice a2 n2 q2, .slice a3 n3 q3, .slice a4 n4 q4]) := S0.out.step hb1
  have X1 : Hid (OneAt w1 (w.heap.size + 1) #[.bool false, .slice none 0 0, .slice none 0 0, .slice none 0 0, .slice none 0 0]) := X0.out.step hb1
  have Z1 : Hid (w.heap.size + 2 ≤ w1.heap.size) := Nat.le_trans Z0.out hb1.size
  clear c0 c1 c2 c3 c4 HO1 B0 S0 X0 Z0 hb1 HO
  obtain ⟨c0, c1, c2, c3, c4⟩ := box_cells5 S1.out
  have HC1 : Hid _ := HC.out w1 B1.out
  cases hok : okT T with
  | false =>
    have ED : drnF T = T := by rw [drnF, if_neg (by rw [hok]; decide)]
    clear HC
    go_wp2_with fail
    refine Calls.mono HC1.out ?_
    rintro e w2 ⟨y, rfl, TY, hb2⟩
    obtain ⟨ya1, ya2, ya3, ya4, yq1, yq2, yq3, yq4, hyy⟩ := (TY.treeF.treeAt).shape
    subst hyy
    have TZ : Hid (TreeD n w2 (fun g => w1.heap.size ≤ g) _ T) := TY
    have BZ : Hid (Below w.heap.size w w2) := Below.and B1.out hb2
    have X2 : Hid (OneAt w2 (w.heap.size + 1) #[.bool false, .slice none 0 0, .slice none 0 0, .slice none 0 0, .slice none 0 0]) := X1.out.step hb2
    have HZ : Hid (w.heap.size + 2 ≤ w1.heap.size) := Z1
    clear TY hb2 HC1 c0 c1 c2 c3 c4 S1 X1
    generalize (T).leaf = yl at *
    generalize (T).pairs.length = yn1 at *
    generalize (T).cuts.length = yn2 at *
    generalize (T).kids.length = yn3 at *
    generalize (T).buf.length = yn4 at *
    obtain ⟨⟨m0, m1, m2, m3, m4⟩, k0, k1, k2, k3, k4⟩ := box_all5 X2.out
    have FIN : Hid (∀ v0 v1 v2 v3 v4, TreeD (n) (set5 w2 (w.heap.size + 1) v0 v1 v2 v3 v4) (fun g => w.heap.size ≤ g) (⟨yl, .slice ya1 yn1 yq1, .slice ya2 yn2 yq2, .slice ya3 yn3 yq3, .slice ya4 yn4 yq4⟩ : TV) (T) ∧ Below w.heap.size w (set5 w2 (w.heap.size + 1) v0 v1 v2 v3 v4)) := fun v0 v1 v2 v3 v4 => by
      have hc := chg_set5 w2 (w.heap.size + 1) v0 v1 v2 v3 v4
      have hz := HZ.out
      exact ⟨(TZ.out.chg hc (fun g hg k => by omega)).mono (fun g hg => by omega), BZ.out.trans (hc.below (fun g _ hg => by omega) BZ.out.size)⟩
    clear TZ X2
    go_wp2
    refine bodyPost_ret (v := .agg #[.bool yl, .slice ya1 yn1 yq1, .slice ya2 yn2 yq2, .slice ya3 yn3 yq3, .slice ya4 yn4 yq4]) (by simp [results, Tryz.results80, go_sem, m0, m1, m2, m3, m4]) rfl ⟨⟨yl, .slice ya1 yn1 yq1, .slice ya2 yn2 yq2, .slice ya3 yn3 yq3, .slice ya4 yn4 yq4⟩, n, rfl, ?_, (FIN.out _ _ _ _ _).2⟩
    rw [ED]
    exact (FIN.out _ _ _ _ _).1
  | true =>
    obtain ⟨hsh, hd7, hwt⟩ := ok_sh hok
    obtain ⟨e, he1, he2, he3⟩ := drain_root hsh
    obtain ⟨hmo, hmw⟩ := drainM_ok _ _ hsh
    have MO : Hid (MOk (depthT T) (drainM (depthT T) T)) := hmo
    have ED : Hid (drnF T = if okT (rootOf (drainM (depthT T) T)) = true then rootOf (drainM (depthT T) T) else T) := by show _ = _; rw [drnF, if_pos hok]
    have SH : Hid (shT (depthT T) T) := hsh
    have WT : Hid (wt (depthT T) T ≤ 1000000 ∧ wtL (depthT T) (drainM (depthT T) T).1 ≤ 1000000) := ⟨by omega, by omega⟩
    have SZ : Hid (sizeT (depthT T + (drainM (depthT T) T).1.length) (rootOf (drainM (depthT T) T)) ≤ 1099511627776) := Nat.le_trans (sh_size he2 he1) (by omega)
    clear hsh hd7 hwt he1 he2 he3 hmo hmw
    go_wp2_with fail
    refine Calls.mono HC1.out ?_
    rintro e' w2 ⟨y, rfl, TY, hb2⟩
    have HD : Hid _ := drain_all (depthT T) (fun g => w1.heap.size ≤ g) y T w2 (TreeD.down SH.out TY).treeF SH.out WT.out.1
    obtain ⟨ya1, ya2, ya3, ya4, yq1, yq2, yq3, yq4, hyy⟩ := TY.treeF.treeAt.shape
    rw [hyy] at HD ⊢
    have B2 : Hid (Below w.heap.size w w2) := Below.and B1.out hb2
    have L2 : Hid (Below w1.heap.size w1 w2) := hb2
    clear TY hyy hb2 HC1
    generalize hgm : drainM (depthT T) T = gm at *
    generalize hdd : depthT T = d at *
    go_wp2_with fail
    refine Calls.mono HD.out ?_
    rintro e' w3 ⟨v1, v2, rfl, T3, R3, hb3⟩
    have HR : Hid _ := l4Root_any d _ v1 v2 gm w3 T3 R3 MO.out WT.out.2
    obtain ⟨ax, qx, hv1, _⟩ := (show Row w3 v1 gm.1.length _ from (T3.els.choose_spec.2).row).len
    obtain ⟨ay, qy, hv2, _⟩ := R3.row.len
    subst hv1
    subst hv2
    have L3 : Hid (Below w1.heap.size w1 w3) := Below.and L2.out hb3
    clear T3 R3 hb3 HD
    go_wp2_with fail
    refine Calls.mono HR.out ?_
    rintro e' w4 ⟨r, rfl, T4, hb4⟩
    have T4' : TreeF (d + gm.1.length) w4 _ r (rootOf gm) := T4
    obtain ⟨ra1, ra2, ra3, ra4, rq1, rq2, rq3, rq4, hyr⟩ := T4'.treeAt.shape
    subst hyr
    have L4 : Hid (Below w1.heap.size w1 w4) := Below.and L3.out hb4
    have A4 : Hid (TreeAt (d + gm.1.length) w4 _ (rootOf gm)) := T4'.treeAt
    clear T4 T4' hb4 HR L2 L3 B2
    generalize hRR : rootOf gm = R at *
    generalize (R).leaf = rl at *
    generalize (R).pairs.length = rn1 at *
    generalize (R).cuts.length = rn2 at *
    generalize (R).kids.length = rn3 at *
    generalize (R).buf.length = rn4 at *
    have L5 : Hid (Below w1.heap.size w1 (w4.alloc (.cells #[.bool rl, .slice ra1 rn1 rq1, .slice ra2 rn2 rq2, .slice ra3 rn3 rq3, .slice ra4 rn4 rq4] 29))) := Below.and L4.out (al1 _ _)
    have X5 : Hid (OneAt (w4.alloc (.cells #[.bool rl, .slice ra1 rn1 rq1, .slice ra2 rn2 rq2, .slice ra3 rn3 rq3, .slice ra4 rn4 rq4] 29)) w4.heap.size #[.bool rl, .slice ra1 rn1 rq1, .slice ra2 rn2 rq2, .slice ra3 rn3 rq3, .slice ra4 rn4 rq4]) := OneAt.start w4 _
    have HO5 : Hid _ := specTreeOk_any (d + gm.1.length) (⟨rl, .slice ra1 rn1 rq1, .slice ra2 rn2 rq2, .slice ra3 rn3 rq3, .slice ra4 rn4 rq4⟩) R (w4.alloc (.cells #[.bool rl, .slice ra1 rn1 rq1, .slice ra2 rn2 rq2, .slice ra3 rn3 rq3, .slice ra4 rn4 rq4] 29)) (A4.out.below (al1 _ _)) SZ.out
    obtain ⟨d0, d1, d2, d3, d4⟩ := box_cells5 X5.out
    go_wp2_with fail
    refine Calls.mono HO5.out ?_
    rintro e' w6 ⟨rfl, hb6⟩
    have L6 : Hid (Below w1.heap.size w1 w6) := Below.and L5.out hb6
    have X6 : Hid (OneAt w6 w4.heap.size #[.bool rl, .slice ra1 rn1 rq1, .slice ra2 rn2 rq2, .slice ra3 rn3 rq3, .slice ra4 rn4 rq4]) := X5.out.step hb6
    have A6 : Hid (TreeAt (d + gm.1.length) w6 (⟨rl, .slice ra1 rn1 rq1, .slice ra2 rn2 rq2, .slice ra3 rn3 rq3, .slice ra4 rn4 rq4⟩) R) := A4.out.below (Below.and (al1 _ _) hb6)
    have S6 : Hid (OneAt w6 w.heap.size #[.bool lf, .slice a1 n1 q1, .slice a2 n2 q2, .slice a3 n3 q3, .slice a4 n4 q4]) := S1.out.step L6.out
    have P6 : Hid (OneAt w6 (w.heap.size + 1) #[.bool false, .slice none 0 0, .slice none 0 0, .slice none 0 0, .slice none 0 0]) := X1.out.step L6.out
    have B6 : Hid (Below w.heap.size w w6) := Below.and B1.out L6.out
    have Z6 : Hid (w.heap.size + 2 ≤ w6.heap.size) := Nat.le_trans Z1.out L6.out.size
    clear hb6 L5 X5 HO5 d0 d1 d2 d3 d4 c0 c1 c2 c3 c4 A4 L4 L6
    cases hor : okT R with
    | false =>
      have ED2 : drnF T = T := by rw [ED.out, hor]; rfl
      have HC6 : Hid _ := HC.out w6 B6.out
      obtain ⟨c0, c1, c2, c3, c4⟩ := box_cells5 S6.out
      go_wp2_with fail
      refine Calls.mono HC6.out ?_
      rintro e w7 ⟨z, rfl, TY, hb7⟩
      obtain ⟨za1, za2, za3, za4, zq1, zq2, zq3, zq4, hyz⟩ := (TY.treeF.treeAt).shape
      subst hyz
      have TZ : Hid (TreeD n w7 (fun g => w6.heap.size ≤ g) _ T) := TY
      have BZ : Hid (Below w.heap.size w w7) := Below.and B6.out hb7
      have X7 : Hid (OneAt w7 (w.heap.size + 1) #[.bool false, .slice none 0 0, .slice none 0 0, .slice none 0 0, .slice none 0 0]) := P6.out.step hb7
      have HZ : Hid (w.heap.size + 2 ≤ w6.heap.size) := Z6
      clear TY hb7 HC6 c0 c1 c2 c3 c4
      generalize (T).leaf = zl at *
      generalize (T).pairs.length = zn1 at *
      generalize (T).cuts.length = zn2 at *
      generalize (T).kids.length = zn3 at *
      generalize (T).buf.length = zn4 at *
      obtain ⟨⟨m0, m1, m2, m3, m4⟩, k0, k1, k2, k3, k4⟩ := box_all5 X7.out
      have FIN : Hid (∀ v0 v1 v2 v3 v4, TreeD (n) (set5 w7 (w.heap.size + 1) v0 v1 v2 v3 v4) (fun g => w.heap.size ≤ g) (⟨zl, .slice za1 zn1 zq1, .slice za2 zn2 zq2, .slice za3 zn3 zq3, .slice za4 zn4 zq4⟩ : TV) (T) ∧ Below w.heap.size w (set5 w7 (w.heap.size + 1) v0 v1 v2 v3 v4)) := fun v0 v1 v2 v3 v4 => by
        have hc := chg_set5 w7 (w.heap.size + 1) v0 v1 v2 v3 v4
        have hz := HZ.out
        exact ⟨(TZ.out.chg hc (fun g hg k => by omega)).mono (fun g hg => by omega), BZ.out.trans (hc.below (fun g _ hg => by omega) BZ.out.size)⟩
      clear TZ X7
      go_wp2
      refine bodyPost_ret (v := .agg #[.bool zl, .slice za1 zn1 zq1, .slice za2 zn2 zq2, .slice za3 zn3 zq3, .slice za4 zn4 zq4]) (by simp [results, Tryz.results80, go_sem, m0, m1, m2, m3, m4]) rfl ⟨⟨zl, .slice za1 zn1 zq1, .slice za2 zn2 zq2, .slice za3 zn3 zq3, .slice za4 zn4 zq4⟩, n, rfl, ?_, (FIN.out _ _ _ _ _).2⟩
      rw [ED2]
      exact (FIN.out _ _ _ _ _).1
    | true =>
      have ED2 : drnF T = R := by rw [ED.out, hor]; rfl
      have HC6 : Hid _ := copy_all (d + gm.1.length) (⟨rl, .slice ra1 rn1 rq1, .slice ra2 rn2 rq2, .slice ra3 rn3 rq3, .slice ra4 rn4 rq4⟩) R w6 A6.out SZ.out
      obtain ⟨c0, c1, c2, c3, c4⟩ := box_cells5 X6.out
      go_wp2_with fail
      refine Calls.mono HC6.out ?_
      rintro e w7 ⟨z, rfl, TY, hb7⟩
      obtain ⟨za1, za2, za3, za4, zq1, zq2, zq3, zq4, hyz⟩ := (TY.treeF.treeAt).shape
      subst hyz
      have TZ : Hid (TreeD (d + gm.1.length) w7 (fun g => w6.heap.size ≤ g) _ R) := TY
      have BZ : Hid (Below w.heap.size w w7) := Below.and B6.out hb7
      have X7 : Hid (OneAt w7 (w.heap.size + 1) #[.bool false, .slice none 0 0, .slice none 0 0, .slice none 0 0, .slice none 0 0]) := P6.out.step hb7
      have HZ : Hid (w.heap.size + 2 ≤ w6.heap.size) := Z6
      clear TY hb7 HC6 c0 c1 c2 c3 c4
      generalize (R).leaf = zl at *
      generalize (R).pairs.length = zn1 at *
      generalize (R).cuts.length = zn2 at *
      generalize (R).kids.length = zn3 at *
      generalize (R).buf.length = zn4 at *
      obtain ⟨⟨m0, m1, m2, m3, m4⟩, k0, k1, k2, k3, k4⟩ := box_all5 X7.out
      have FIN : Hid (∀ v0 v1 v2 v3 v4, TreeD (d + gm.1.length) (set5 w7 (w.heap.size + 1) v0 v1 v2 v3 v4) (fun g => w.heap.size ≤ g) (⟨zl, .slice za1 zn1 zq1, .slice za2 zn2 zq2, .slice za3 zn3 zq3, .slice za4 zn4 zq4⟩ : TV) (R) ∧ Below w.heap.size w (set5 w7 (w.heap.size + 1) v0 v1 v2 v3 v4)) := fun v0 v1 v2 v3 v4 => by
        have hc := chg_set5 w7 (w.heap.size + 1) v0 v1 v2 v3 v4
        have hz := HZ.out
        exact ⟨(TZ.out.chg hc (fun g hg k => by omega)).mono (fun g hg => by omega), BZ.out.trans (hc.below (fun g _ hg => by omega) BZ.out.size)⟩
      clear TZ X7
      go_wp2
      refine bodyPost_ret (v := .agg #[.bool zl, .slice za1 zn1 zq1, .slice za2 zn2 zq2, .slice za3 zn3 zq3, .slice za4 zn4 zq4]) (by simp [results, Tryz.results80, go_sem, m0, m1, m2, m3, m4]) rfl ⟨⟨zl, .slice za1 zn1 zq1, .slice za2 zn2 zq2, .slice za3 zn3 zq3, .slice za4 zn4 zq4⟩, d + gm.1.length, rfl, ?_, (FIN.out _ _ _ _ _).2⟩
      rw [ED2]
      exact (FIN.out _ _ _ _ _).1

end Go.Proofs.YtmpiijphpnjlnaaGreat
