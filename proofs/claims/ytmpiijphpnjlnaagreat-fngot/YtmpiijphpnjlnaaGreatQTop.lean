/-
  Contracts of chapter 3's Pending and TreeGet, of the model and of the program.
-/
import Derived.Test.YtmpiijphpnjlnaaGreatQImpl
import Derived.Test.YtmpiijphpnjlnaaGreatPart5
import Derived.Deep.LoopGhost
import Derived.Deep.RegionWith
namespace Go.Proofs.YtmpiijphpnjlnaaGreat
open Go.RowKit

/-- Pending's answer -/
def pendT (T : Tr) (k : Int) : ML := if okT T = true then pendF 7 T k else []
theorem pendT_length (T : Tr) (k : Int) : (pendT T k).length ≤ 42 := by
  unfold pendT
  split
  · exact pendF_length k (okT_depth (by assumption))
  · simp
/-- TreeGet's answer -/
def getT (T : Tr) (k : Int) : Int × Bool := if okT T = true then getP (allL (leafF 7 T k).pairs (pendF 7 T k)) k else (0, false)

set_option maxHeartbeats 1000000 in
theorem specPending_any (n : Nat) (x : TV) (T : Tr) (x0 : Int) (w : World) (ht : TreeAt n w x T) (hsz : sizeT n T ≤ 1099511627776) :
    Calls Tryz.prog 11 #[x.val, .int .i64 x0] w fun e w' => ∃ v', e = .returned v' ∧ w'.ownsRow w.heap.size 37 3 v' (pendT T x0).length (flatM (pendT T x0)) ∧ Below w.heap.size w w' := by
  have TT : Hid (TreeAt n w x T) := ht
  clear ht
  obtain ⟨lf, p, c, k, b⟩ := x
  have B0 : Hid _ := bel_box w #[.bool lf, p, c, k, b]
  have S0 : Hid (OneAt _ w.heap.size _) := OneAt.start w #[.bool lf, p, c, k, b]
  have HC := specTreeOk_any n ⟨lf, p, c, k, b⟩ T _ (TT.out.below B0.out) hsz
  have HC' : Hid _ := HC
  clear HC
  have P1 : Hid (okT T = true → pendT T x0 = pendF 7 T x0) := fun h => by rw [pendT, if_pos h]
  have P2 : Hid (okT T = false → pendT T x0 = []) := fun h => by rw [pendT, if_neg (by rw [h]; simp)]
  show Calls Tryz.prog 11 #[.agg #[.bool lf, p, c, k, b], .int .i64 x0] w _
  cases hok : okT T
  · rw [P2.out hok]
    rw [hok] at HC'
    clear P1 P2
    go_enter Tryz.func11, Tryz.ntmps11
    go_wp2_with fail
    refine Calls.mono HC'.out ?_
    rintro e w1 ⟨rfl, hb1⟩
    have B1 : Hid (Below w.heap.size w w1) := Below.and B0.out hb1
    clear hb1 B0
    go_wp2
    go_ret
    exact ⟨_, rfl, empty_own w1 w.heap.size 37 3 B1.out.size, B1.out.alloc B1.out.size _⟩
  · rw [P1.out hok]
    have HD : Hid (∀ w1, Below w.heap.size w w1 → Calls Tryz.prog 29 #[.agg #[.bool lf, p, c, k, b], .int .i64 x0] w1 fun e w' => ∃ v', e = .returned v' ∧ w'.ownsRow w1.heap.size 37 3 v' (pendF 7 T x0).length (flatM (pendF 7 T x0)) ∧ Below w1.heap.size w1 w') :=
      fun w1 hb => pend_7 n ⟨lf, p, c, k, b⟩ T 0 1000 x0 w1 (TT.out.below hb) (okT_depth hok)
    rw [hok] at HC'
    clear P1 P2
    generalize pendF 7 T x0 = M at *
    go_enter Tryz.func11, Tryz.ntmps11
    go_wp2_with fail
    refine Calls.mono HC'.out ?_
    rintro e w1 ⟨rfl, hb1⟩
    have B1 : Hid (Below w.heap.size w w1) := Below.and B0.out hb1
    have k0 := (S0.out.step hb1).cells
    clear hb1 B0
    go_wp2_with fail
    refine Calls.mono (HD.out w1 B1.out) ?_
    rintro e w2 ⟨v2, rfl, o2, hb2⟩
    have FIN : Hid _ := And.intro (owns_mono o2 B1.out.size) (Below.and B1.out hb2)
    clear hb2 o2 k0
    go_wp2
    go_ret
    exact ⟨_, rfl, FIN.out.1, FIN.out.2⟩

set_option maxHeartbeats 1000000 in
theorem implPending_any (n : Nat) (x : TV) (T : Tr) (x0 : Int) (w : World) (ht : TreeAt n w x T) :
    Calls Tryz.prog 9 #[x.val, .int .i64 x0] w fun e w' => ∃ v', e = .returned v' ∧ w'.ownsRow w.heap.size 37 3 v' (pendT T x0).length (flatM (pendT T x0)) ∧ Below w.heap.size w w' := by
  have TT : Hid (TreeAt n w x T) := ht
  clear ht
  obtain ⟨lf, p, c, k, b⟩ := x
  have B0 : Hid _ := bel_box w #[.bool lf, p, c, k, b]
  have S0 : Hid (OneAt _ w.heap.size _) := OneAt.start w #[.bool lf, p, c, k, b]
  have HC := implTreeOk_any n ⟨lf, p, c, k, b⟩ T _ (TT.out.below B0.out)
  have HC' : Hid _ := HC
  clear HC
  have P1 : Hid (okT T = true → pendT T x0 = pendF 7 T x0) := fun h => by rw [pendT, if_pos h]
  have P2 : Hid (okT T = false → pendT T x0 = []) := fun h => by rw [pendT, if_neg (by rw [h]; simp)]
  show Calls Tryz.prog 9 #[.agg #[.bool lf, p, c, k, b], .int .i64 x0] w _
  cases hok : okT T
  · rw [P2.out hok]
    rw [hok] at HC'
    clear P1 P2
    go_enter Tryz.func9, Tryz.ntmps9
    go_wp2_with fail
    refine Calls.mono HC'.out ?_
    rintro e w1 ⟨rfl, hb1⟩
    have B1 : Hid (Below w.heap.size w w1) := Below.and B0.out hb1
    clear hb1 B0
    go_wp2
    go_ret
    exact ⟨_, rfl, World.ownsRow_nil _ _ _ _, B1.out⟩
  · rw [P1.out hok]
    have HD : Hid (∀ w1, Below w.heap.size w w1 → Calls Tryz.prog 24 #[.agg #[.bool lf, p, c, k, b], .int .i64 x0] w1 fun e w' => ∃ (y : TV) (v' : Value), e = .returned (.tuple #[y.val, v']) ∧ TreeAt n w y (leafF 7 T x0) ∧ w'.ownsRow w1.heap.size 37 3 v' (pendF 7 T x0).length (flatM (pendF 7 T x0)) ∧ Below w1.heap.size w1 w') :=
      fun w1 hb => way_7 n ⟨lf, p, c, k, b⟩ T 0 1000 x0 w w1 TT.out hb (okT_depth hok)
    rw [hok] at HC'
    clear P1 P2
    generalize pendF 7 T x0 = M at *
    generalize leafF 7 T x0 = LF at *
    go_enter Tryz.func9, Tryz.ntmps9
    go_wp2_with fail
    refine Calls.mono HC'.out ?_
    rintro e w1 ⟨rfl, hb1⟩
    have B1 : Hid (Below w.heap.size w w1) := Below.and B0.out hb1
    have k0 := (S0.out.step hb1).cells
    clear hb1 B0
    go_wp2_with fail
    refine Calls.mono (HD.out w1 B1.out) ?_
    rintro e w2 ⟨y, v2, rfl, ty, o2, hb2⟩
    obtain ⟨y1, y2, y3, y4, p1, p2, p3, p4, hy⟩ := ty.shape
    subst hy
    generalize LF.leaf = yl at *
    generalize LF.pairs.length = l1 at *
    generalize LF.cuts.length = l2 at *
    generalize LF.kids.length = l3 at *
    generalize LF.buf.length = l4 at *
    have FIN : Hid _ := And.intro (owns_mono o2 B1.out.size) (Below.and B1.out hb2)
    clear hb2 o2 k0 ty
    go_wp2
    go_ret
    exact ⟨_, rfl, FIN.out.1.alloc _, FIN.out.2.alloc FIN.out.2.size _⟩

set_option maxHeartbeats 1000000 in
theorem implTreeGet_any (n : Nat) (x : TV) (T : Tr) (x0 : Int) (w : World) (ht : TreeAt n w x T) :
    Calls Tryz.prog 7 #[x.val, .int .i64 x0] w fun e w' => e = .returned (.tuple #[.int .i64 (getT T x0).1, .bool (getT T x0).2]) ∧ Below w.heap.size w w' := by
  have TT : Hid (TreeAt n w x T) := ht
  clear ht
  obtain ⟨lf, p, c, k, b⟩ := x
  have B0 : Hid _ := bel_box w #[.bool lf, p, c, k, b]
  have S0 : Hid (OneAt _ w.heap.size _) := OneAt.start w #[.bool lf, p, c, k, b]
  have HC := implTreeOk_any n ⟨lf, p, c, k, b⟩ T _ (TT.out.below B0.out)
  have HC' : Hid _ := HC
  clear HC
  have P1 : Hid (okT T = true → getT T x0 = getP (allL (leafF 7 T x0).pairs (pendF 7 T x0)) x0) := fun h => by rw [getT, if_pos h]
  have P2 : Hid (okT T = false → getT T x0 = (0, false)) := fun h => by rw [getT, if_neg (by rw [h]; simp)]
  show Calls Tryz.prog 7 #[.agg #[.bool lf, p, c, k, b], .int .i64 x0] w _
  cases hok : okT T
  · rw [P2.out hok]
    rw [hok] at HC'
    clear P1 P2
    go_enter Tryz.func7, Tryz.ntmps7
    go_wp2_with fail
    refine Calls.mono HC'.out ?_
    rintro e w1 ⟨rfl, hb1⟩
    have B1 : Hid (Below w.heap.size w w1) := Below.and B0.out hb1
    clear hb1 B0
    go_wp2
    go_ret2
    exact ⟨rfl, B1.out⟩
  · rw [P1.out hok]
    have HD : Hid (∀ w1, Below w.heap.size w w1 → Calls Tryz.prog 24 #[.agg #[.bool lf, p, c, k, b], .int .i64 x0] w1 fun e w' => ∃ (y : TV) (v' : Value), e = .returned (.tuple #[y.val, v']) ∧ TreeAt n w y (leafF 7 T x0) ∧ w'.ownsRow w1.heap.size 37 3 v' (pendF 7 T x0).length (flatM (pendF 7 T x0)) ∧ Below w1.heap.size w1 w') :=
      fun w1 hb => way_7 n ⟨lf, p, c, k, b⟩ T 0 1000 x0 w w1 TT.out hb (okT_depth hok)
    have hpl : (pendF 7 T x0).length ≤ 42 := pendF_length x0 (okT_depth hok)
    have hll : (leafF 7 T x0).pairs.length ≤ 4 := (leafF_ok x0 (okT_depth hok)).2.1
    rw [hok] at HC'
    clear P1 P2
    generalize pendF 7 T x0 = M at *
    generalize leafF 7 T x0 = LF at *
    generalize hA : allL LF.pairs M = A
    have HA : Hid (allL LF.pairs M = A) := hA
    clear hA
    have hG : ∃ g, getP A x0 = g := ⟨_, rfl⟩
    obtain ⟨⟨g1, g2⟩, hG⟩ := hG
    have HG : Hid (getP A x0 = (g1, g2)) := hG
    rw [hG]
    clear hG
    go_enter Tryz.func7, Tryz.ntmps7
    go_wp2_with fail
    refine Calls.mono HC'.out ?_
    rintro e w1 ⟨rfl, hb1⟩
    have B1 : Hid (Below w.heap.size w w1) := Below.and B0.out hb1
    have k0 := (S0.out.step hb1).cells
    clear hb1 B0
    go_wp2_with fail
    refine Calls.mono (HD.out w1 B1.out) ?_
    rintro e w2 ⟨y, v2, rfl, ty, o2, hb2⟩
    have RP : Hid (Row w y.p LF.pairs.length (flatP LF.pairs)) := by
      cases n with
      | zero => exact ty.elim
      | succ n => exact ty.parts.2.1
    obtain ⟨y1, y2, y3, y4, p1, p2, p3, p4, hy⟩ := ty.shape
    subst hy
    simp only at RP
    have R2 : Hid (Row w2 v2 M.length (flatM M)) := Row.of_owns o2
    have B2 : Hid (Below w.heap.size w w2) := Below.and B1.out hb2
    clear hb2 o2 k0 ty
    generalize LF.leaf = yl at *
    generalize LF.cuts.length = l2 at *
    generalize LF.kids.length = l3 at *
    generalize LF.buf.length = l4 at *
    have BX : Hid (Below w2.heap.size w2 (w2.alloc (.cells #[.bool yl, .slice y1 LF.pairs.length p1, .slice y2 l2 p2, .slice y3 l3 p3, .slice y4 l4 p4] 29))) := (Below.refl _ _).alloc (Nat.le_refl _) _
    go_wp2_with fail
    refine Calls.mono (implMapAll_any _ _ LF.pairs M _ (RP.out.below (Below.and B2.out BX.out)) (R2.out.below BX.out) (by omega)) ?_
    rintro e w3 ⟨v3, rfl, o3, hb3⟩
    have B3 : Hid (Below w.heap.size w w3) := Below.and (Below.and B2.out BX.out) hb3
    rw [HA.out] at o3
    have R3 : Row w3 v3 _ _ := Row.of_owns o3
    clear hb3 o3
    go_wp2_with fail
    refine Calls.mono (implMapGet_any _ A x0 _ R3) ?_
    rintro e w4 ⟨rfl, hb4⟩
    have B4 : Hid (Below w.heap.size w w4) := Below.and B3.out hb4
    clear hb4 R3
    rw [HG.out]
    go_wp2
    go_ret2
    exact ⟨rfl, B4.out⟩

set_option maxRecDepth 100000 in
set_option maxHeartbeats 4000000 in
theorem specTreeGet_any (n : Nat) (x : TV) (T : Tr) (x0 : Int) (w : World) (ht : TreeAt n w x T) (hsz : sizeT n T ≤ 1099511627776) :
    Calls Tryz.prog 8 #[x.val, .int .i64 x0] w fun e w' => e = .returned (.tuple #[.int .i64 (getT T x0).1, .bool (getT T x0).2]) ∧ Below w.heap.size w w' := by
  have TT : Hid (TreeAt n w x T) := ht
  obtain ⟨i0, hi0, hz0, hz1, hz2⟩ := info_parts Tryz.info52
  obtain ⟨a1, a2, a3, a4, q1, q2, q3, q4, hx⟩ := ht.shape
  subst hx
  clear ht
  have B0 : Hid _ := bel_box w #[.bool T.leaf, .slice a1 T.pairs.length q1, .slice a2 T.cuts.length q2, .slice a3 T.kids.length q3, .slice a4 T.buf.length q4]
  have S0 : Hid (OneAt _ w.heap.size _) := OneAt.start w #[.bool T.leaf, .slice a1 T.pairs.length q1, .slice a2 T.cuts.length q2, .slice a3 T.kids.length q3, .slice a4 T.buf.length q4]
  have HC := specTreeOk_any n ⟨T.leaf, .slice a1 T.pairs.length q1, .slice a2 T.cuts.length q2, .slice a3 T.kids.length q3, .slice a4 T.buf.length q4⟩ T _ (TT.out.below B0.out) hsz
  have HC' : Hid _ := HC
  clear HC
  have P1 : Hid (okT T = true → getT T x0 = getP (allL (oneP (leafF 7 T x0).pairs x0) (pendF 7 T x0)) x0) := fun h => by rw [getT, if_pos h, get_ways h]
  have P2 : Hid (okT T = false → getT T x0 = (0, false)) := fun h => by rw [getT, if_neg (by rw [h]; simp)]
  show Calls Tryz.prog 8 #[.agg #[.bool T.leaf, .slice a1 T.pairs.length q1, .slice a2 T.cuts.length q2, .slice a3 T.kids.length q3, .slice a4 T.buf.length q4], .int .i64 x0] w _
  cases hok : okT T
  · rw [P2.out hok]
    rw [hok] at HC'
    clear P1 P2
    go_enter Tryz.func8, Tryz.ntmps8
    go_wp2_with fail
    refine Calls.mono HC'.out ?_
    rintro e w1 ⟨rfl, hb1⟩
    have B1 : Hid (Below w.heap.size w w1) := Below.and B0.out hb1
    clear hb1 B0
    go_wp2
    go_ret2
    exact ⟨rfl, B1.out⟩
  · rw [P1.out hok]
    have HD : Hid (∀ w1, Below w.heap.size w w1 → Calls Tryz.prog 29 #[.agg #[.bool T.leaf, .slice a1 T.pairs.length q1, .slice a2 T.cuts.length q2, .slice a3 T.kids.length q3, .slice a4 T.buf.length q4], .int .i64 x0] w1 fun e w' => ∃ v', e = .returned v' ∧ w'.ownsRow w1.heap.size 37 3 v' (pendF 7 T x0).length (flatM (pendF 7 T x0)) ∧ Below w1.heap.size w1 w') :=
      fun w1 hb => pend_7 n ⟨T.leaf, .slice a1 T.pairs.length q1, .slice a2 T.cuts.length q2, .slice a3 T.kids.length q3, .slice a4 T.buf.length q4⟩ T 0 1000 x0 w1 (TT.out.below hb) (okT_depth hok)
    have hpl : (pendF 7 T x0).length ≤ 42 := pendF_length x0 (okT_depth hok)
    have hll : (leafF 7 T x0).pairs.length ≤ 4 := (leafF_ok x0 (okT_depth hok)).2.1
    have hol : (oneP (leafF 7 T x0).pairs x0).length ≤ 1 := oneP_length _ _
    have hdp : Hid (depthF 7 T 0 1000 ≠ 0) := okT_depth hok
    rw [hok] at HC'
    clear P1 P2
    have TG : Hid (∃ (y : TV) (U : Tr) (lo hi : Int), y = ⟨T.leaf, .slice a1 T.pairs.length q1, .slice a2 T.cuts.length q2, .slice a3 T.kids.length q3, .slice a4 T.buf.length q4⟩ ∧ TreeAt n w y U ∧ depthF 7 U lo hi ≠ 0 ∧ leafF 7 U x0 = leafF 7 T x0) := ⟨_, T, 0, 1000, rfl, TT.out, hdp.out, rfl⟩
    clear TT hdp
    generalize pendF 7 T x0 = M at *
    generalize leafF 7 T x0 = LF at *
    have hG : ∃ g, getP (allL (oneP LF.pairs x0) M) x0 = g := ⟨_, rfl⟩
    obtain ⟨⟨g1, g2⟩, hG⟩ := hG
    have HG : Hid (getP (allL (oneP LF.pairs x0) M) x0 = (g1, g2)) := hG
    rw [hG]
    clear hG
    generalize T.leaf = yl at *
    generalize T.pairs.length = l1 at *
    generalize T.cuts.length = l2 at *
    generalize T.kids.length = l3 at *
    generalize T.buf.length = l4 at *
    go_enter Tryz.func8, Tryz.ntmps8
    go_wp2_with fail
    refine Calls.mono HC'.out ?_
    rintro e w1 ⟨rfl, hb1⟩
    have B1 : Hid (Below w.heap.size w w1) := Below.and B0.out hb1
    have S1 : Hid (OneAt w1 w.heap.size _) := S0.out.step hb1
    obtain ⟨k0, k1, k2, k3, k4⟩ := box_cells5 S1.out
    clear hb1 B0 S0 HC'
    have hbs1 : w.heap.size + 1 ≤ w1.heap.size := (Array.getElem?_eq_some_iff.1 S1.out).1
    have SL1 : Hid (OneAt (w1.alloc (.cells #[.bool yl, .slice a1 l1 q1, .slice a2 l2 q2, .slice a3 l3 q3, .slice a4 l4 q4] 29)) w1.heap.size #[.bool yl, .slice a1 l1 q1, .slice a2 l2 q2, .slice a3 l3 q3, .slice a4 l4 q4]) := OneAt.start w1 _
    have BL1 : Hid (Below w1.heap.size w1 (w1.alloc (.cells #[.bool yl, .slice a1 l1 q1, .slice a2 l2 q2, .slice a3 l3 q3, .slice a4 l4 q4] 29))) := (Below.refl _ _).alloc (Nat.le_refl _) _
    go_wp2
    go_loopg [] 7 (fun gk wr => ∃ (y : TV) (U : Tr) (lo hi : Int), Hid (OneAt wr w1.heap.size #[.bool y.lf, y.p, y.c, y.k, y.b]) ∧ Hid (TreeAt n w y U) ∧ Hid (depthF gk U lo hi ≠ 0) ∧ Hid (leafF gk U x0 = LF) ∧ Hid (Below w1.heap.size w1 wr))
    case atStart =>
      obtain ⟨y, U, lo, hi, rfl, t1, t2, t3⟩ := TG.out
      exact ⟨_, U, lo, hi, SL1, t1, t2, t3, BL1⟩
    case round =>
      obtain ⟨y, U, lo, hi, SR, TY, DP, LFE, BR⟩ := hrel
      clear SL1 BL1 TG k0 k1 k2 k3 k4
      cases n with
      | zero => exact TY.out.elim
      | succ n =>
      cases gk with
      | zero => exact absurd rfl DP.out
      | succ gk =>
      obtain ⟨_, hpr, _, _, hkids⟩ := TY.out.parts
      obtain ⟨y1, y2, y3, y4, p1, p2, p3, p4, hy⟩ := TY.out.shape
      subst hy
      simp only at SR hpr hkids
      have BWR : Hid (Below w.heap.size w wr) := Below.and B1.out BR.out
      have hbr : w1.heap.size ≤ wr.heap.size := BR.out.size
      cases hl : U.leaf
      · have hf := depthF_fork_ok DP.out hl
        have hqk := kidK_in hf.1 x0
        have hdk : Hid (depthF gk (kidT U (prefK U.cuts x0)) (fromT U lo (prefK U.cuts x0)) (toT U hi (prefK U.cuts x0)) ≠ 0) := hf.2 _ hqk
        have LE : Hid (leafF gk (kidT U (prefK U.cuts x0)) x0 = LF) := by
          have := LFE.out
          rw [leafF, if_neg (by rw [hl]; simp)] at this
          exact this
        rw [hl] at SR TY
        have HK : Hid (∀ w1, Below w.heap.size w w1 → Calls Tryz.prog 26 #[.agg #[.bool false, .slice y1 U.pairs.length p1, .slice y2 U.cuts.length p2, .slice y3 U.kids.length p3, .slice y4 U.buf.length p4], .int .i64 x0] w1 fun e w' => e = .returned (.int .i64 (prefK U.cuts x0 : Nat)) ∧ Below w1.heap.size w1 w') :=
          fun w1 hb => l2Kid_any (n + 1) ⟨false, .slice y1 U.pairs.length p1, .slice y2 U.cuts.length p2, .slice y3 U.kids.length p3, .slice y4 U.buf.length p4⟩ U x0 w1 (TY.out.below hb)
        obtain ⟨xs, hxl, hrow, hk⟩ := hkids
        obtain ⟨a3', b3, off3, cap3, hv3, hcap3, hmax3, ha3, c0, c1, c2, c3, c4⟩ := hrow.trees
        simp only [Value.slice.injEq] at hv3
        obtain ⟨rfl, _, rfl⟩ := hv3
        rw [← hxl] at hqk SR HK
        have hal := ha3 (by omega)
        subst hal
        have TK : TreeAt n w (tvAt xs (prefK U.cuts x0)) (kidT U (prefK U.cuts x0)) := hk _ hqk
        obtain ⟨r1, r2, r3, r4, s1, s2, s3, s4, hy⟩ := TK.shape
        have d0 := c0 _ hqk
        have d1 := c1 _ hqk
        have d2 := c2 _ hqk
        have d3 := c3 _ hqk
        have d4 := c4 _ hqk
        rw [hy] at d0 d1 d2 d3 d4 TK
        simp only at d0 d1 d2 d3 d4
        have TK' : Hid _ := TK
        unfold maxLen at hmax3
        clear c0 c1 c2 c3 c4 hk TK hy hf hpr LFE DP TY hrow ha3 HD HG hxl
        generalize (kidT U (prefK U.cuts x0)).leaf = z0 at *
        generalize (kidT U (prefK U.cuts x0)).pairs.length = z1 at *
        generalize (kidT U (prefK U.cuts x0)).cuts.length = z2 at *
        generalize (kidT U (prefK U.cuts x0)).kids.length = z3 at *
        generalize (kidT U (prefK U.cuts x0)).buf.length = z4 at *
        generalize kidT U (prefK U.cuts x0) = KU at *
        generalize fromT U lo (prefK U.cuts x0) = lo' at *
        generalize toT U hi (prefK U.cuts x0) = hi' at *
        generalize prefK U.cuts x0 = Q at *
        generalize xs.length = n3 at *
        generalize U.pairs.length = n1 at *
        generalize U.cuts.length = n2 at *
        generalize U.buf.length = n4 at *
        have hq1 : (0 : Int) ≤ (Q : Int) := by omega
        have hq2 : (Q : Int) < (n3 : Int) := by omega
        obtain ⟨k0, k1, k2, k3, k4⟩ := box_cells5 SR.out
        have KD : Hid (∀ w', Below w.heap.size w w' → w'.cell? ⟨b3, off3 + Q * 5, none⟩ = some (.bool z0) ∧ w'.cell? ⟨b3, off3 + Q * 5 + 1, none⟩ = some (.slice r1 z1 s1) ∧ w'.cell? ⟨b3, off3 + Q * 5 + 2, none⟩ = some (.slice r2 z2 s2) ∧ w'.cell? ⟨b3, off3 + Q * 5 + 3, none⟩ = some (.slice r3 z3 s3) ∧ w'.cell? ⟨b3, off3 + Q * 5 + 4, none⟩ = some (.slice r4 z4 s4)) :=
          fun w' hb => ⟨cell_lowB hb (cell_lt d0) d0, cell_lowB hb (cell_lt d1) d1, cell_lowB hb (cell_lt d2) d2, cell_lowB hb (cell_lt d3) d3, cell_lowB hb (cell_lt d4) d4⟩
        have SRD : Hid (OneAt wr.drew w1.heap.size _) := SR.out.step (Below.refl _ _).drew
        have BRD : Hid (Below w1.heap.size w1 wr.drew) := BR.out.drew
        have BWD : Hid (Below w.heap.size w wr.drew) := BWR.out.drew
        clear d0 d1 d2 d3 d4
        go_wp2_with fail
        go_region_with (go_at_call 26; refine (HK.out _ BWD.out).mono ?_; rintro e w2 ⟨rfl, hb2⟩; have SS : Hid (OneAt w2 w1.heap.size _) := SRD.out.step hb2; obtain ⟨⟨m0, m1, m2, m3, m4⟩, f0, f1, f2, f3, f4⟩ := box_all5 SS.out; obtain ⟨d0, d1, d2, d3, d4⟩ := KD.out w2 (Below.and BWD.out hb2))
        all_goals
          have B2 : Hid (Below w1.heap.size w1 w2) := Below.and BRD.out hb2
          clear hb2
          go_wp2
          go_roundg gk
          case measure => omega
          case rel => exact ⟨⟨z0, .slice r1 z1 s1, .slice r2 z2 s2, .slice r3 z3 s3, .slice r4 z4 s4⟩, KU, lo', hi', SS.out.set5 _ _ _ _ _, TK'.out.up, hdk, LE, ((((B2.out.setCell (p := ⟨_, 0, none⟩) (Nat.le_refl _) _).setCell (p := ⟨_, 1, none⟩) (Nat.le_refl _) _).setCell (p := ⟨_, 2, none⟩) (Nat.le_refl _) _).setCell (p := ⟨_, 3, none⟩) (Nat.le_refl _) _).setCell (p := ⟨_, 4, none⟩) (Nat.le_refl _) _⟩
      · have LE : U = LF := by
          have := LFE.out
          rw [leafF, if_pos hl] at this
          exact this
        subst LE
        rw [hl] at SR
        have RP : Hid (Row wr (.slice y1 U.pairs.length p1) U.pairs.length (flatP U.pairs)) := hpr.below BWR.out
        obtain ⟨k0, k1, k2, k3, k4⟩ := box_cells5 SR.out
        have EO : Hid ((wr.alloc (.cells #[] 52)).ownsRow w1.heap.size 52 2 (.slice (some ⟨wr.heap.size, 0, none⟩) 0 0) 0 []) := empty_own wr w1.heap.size 52 2 hbr
        have BE : Hid (Below w1.heap.size w1 (wr.alloc (.cells #[] 52))) := BR.out.alloc hbr _
        have SE : Hid (OneAt (wr.alloc (.cells #[] 52)) w1.heap.size _) := SR.out.step ((Below.refl _ _).alloc (Nat.le_refl _) _)
        obtain ⟨j0, j1, j2, j3, j4⟩ := box_cells5 SE.out
        clear hpr hkids LFE DP TY
        generalize U.cuts.length = l2' at *
        generalize U.kids.length = l3' at *
        generalize U.buf.length = l4' at *
        go_wp2_with fail
        refine Calls.mono (specMapGet_any _ U.pairs x0 _ (RP.out.below ((Below.refl _ _).alloc (Nat.le_refl _) _))) ?_
        rintro e w3 ⟨rfl, hw3⟩
        subst hw3
        have ON : Hid (oneP U.pairs x0 = if (getP U.pairs x0).2 = true then [(x0, (getP U.pairs x0).1)] else []) := rfl
        generalize (getP U.pairs x0).1 = c1 at *
        generalize (getP U.pairs x0).2 = c2 at *
        clear k0 k1 k2 k3 k4 j0 j1 j2 j3 j4
        cases c2
        · have OE : Hid (oneP U.pairs x0 = []) := ON.out
          generalize hw5 : wr.alloc (.cells #[] 52) = w5 at *
          generalize hv5 : Value.slice (some ⟨wr.heap.size, 0, none⟩) 0 0 = v5 at *
          have FIN : Hid (w5.ownsRow w1.heap.size 52 2 v5 (oneP U.pairs x0).length (flatP (oneP U.pairs x0)) ∧ Below w1.heap.size w1 w5) := ⟨by rw [OE.out]; exact EO.out, BE.out⟩
          have B5 : Hid (Below w.heap.size w w5) := Below.and B1.out (by have := FIN.out.2; exact this)
          obtain ⟨k0, k1, k2, k3, k4⟩ := box_cells5 (S1.out.step FIN.out.2)
          go_wp2_with fail
          refine Calls.mono (HD.out w5 B5.out) ?_
          rintro e w6 ⟨v6, rfl, o6, hb6⟩
          have R6 : Hid (Row w6 v6 M.length (flatM M)) := Row.of_owns o6
          have R5 : Hid (Row w6 v5 (oneP U.pairs x0).length (flatP (oneP U.pairs x0))) := (Row.of_owns FIN.out.1).below hb6
          have B6 : Hid (Below w.heap.size w w6) := Below.and B5.out hb6
          clear hb6 o6 k0 k1 k2 k3 k4
          go_wp2_with fail
          refine Calls.mono (specMapAll_any _ _ (oneP U.pairs x0) M _ R5.out R6.out (by omega)) ?_
          rintro e w7 ⟨v7, rfl, o7, hb7⟩
          have R7 : Row w7 v7 _ _ := Row.of_owns o7
          have B7 : Hid (Below w.heap.size w w7) := Below.and B6.out hb7
          clear hb7 o7
          go_wp2_with fail
          refine Calls.mono (specMapGet_any _ (allL (oneP U.pairs x0) M) x0 _ R7) ?_
          rintro e w8 ⟨rfl, hw8⟩
          subst hw8
          rw [HG.out]
          clear R7
          go_wp2
          go_ret2
          exact ⟨rfl, B7.out⟩
        · have OE : Hid (oneP U.pairs x0 = [(x0, c1)]) := ON.out
          have HR : Hid _ := room_of (n := 0) (bytes := 16) (by omega) (by decide)
          have H1 : Hid _ := two_one x0 c1
          have hsz1 : (wr.alloc (.cells #[] 52)).heap.size = wr.heap.size + 1 := World.size_alloc _ _
          have OW := EO.out
          have hbs : w1.heap.size ≤ (wr.alloc (.cells #[] 52)).heap.size := BE.out.size
          have HBS : Hid _ := hbs
          clear hbs
          go_wp2_with (at_builtin; refine app_oneB (wr.alloc (.cells #[] 52)) (wr.heap.size + 1) hsz1 rfl _ _ 24 rfl w1.heap.size 52 i0 _ 2 16 Tryz.underlying24 hi0 hz0 hz1 hz2 rfl (by decide) (.slice (some ⟨wr.heap.size, 0, none⟩) 0 0) 0 [] rfl OW [.int .i64 x0, .int .i64 c1] rfl rfl H1.out HR.out.1 HR.out.2 HBS.out ?_)
          intro v5 w5 o5 _ b5
          have FIN : Hid (w5.ownsRow w1.heap.size 52 2 v5 (oneP U.pairs x0).length (flatP (oneP U.pairs x0)) ∧ Below w1.heap.size w1 w5) := ⟨by rw [OE.out]; exact o5, BE.out.trans b5⟩
          clear o5 b5 OW
          have B5 : Hid (Below w.heap.size w w5) := Below.and B1.out (by have := FIN.out.2; exact this)
          obtain ⟨k0, k1, k2, k3, k4⟩ := box_cells5 (S1.out.step FIN.out.2)
          go_wp2_with fail
          refine Calls.mono (HD.out w5 B5.out) ?_
          rintro e w6 ⟨v6, rfl, o6, hb6⟩
          have R6 : Hid (Row w6 v6 M.length (flatM M)) := Row.of_owns o6
          have R5 : Hid (Row w6 v5 (oneP U.pairs x0).length (flatP (oneP U.pairs x0))) := (Row.of_owns FIN.out.1).below hb6
          have B6 : Hid (Below w.heap.size w w6) := Below.and B5.out hb6
          clear hb6 o6 k0 k1 k2 k3 k4
          go_wp2_with fail
          refine Calls.mono (specMapAll_any _ _ (oneP U.pairs x0) M _ R5.out R6.out (by omega)) ?_
          rintro e w7 ⟨v7, rfl, o7, hb7⟩
          have R7 : Row w7 v7 _ _ := Row.of_owns o7
          have B7 : Hid (Below w.heap.size w w7) := Below.and B6.out hb7
          clear hb7 o7
          go_wp2_with fail
          refine Calls.mono (specMapGet_any _ (allL (oneP U.pairs x0) M) x0 _ R7) ?_
          rintro e w8 ⟨rfl, hw8⟩
          subst hw8
          rw [HG.out]
          clear R7
          go_wp2
          go_ret2
          exact ⟨rfl, B7.out⟩

end Go.Proofs.YtmpiijphpnjlnaaGreat
