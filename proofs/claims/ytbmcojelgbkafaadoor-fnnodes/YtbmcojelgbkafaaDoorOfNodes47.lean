/-
  The walk of the law FnNodes.
  What an argument that is a list of pairs holds: opened once into a row of cells.
  The listed variable: the one error that stands for a mistake, as its initialiser lays it.
-/
import Derived.Test.YtbmcojelgbkafaaDoorOfNodes33
import Derived.Test.YtbmcojelgbkafaaDoorOfNodes46
import Derived.Deep.DeepCutAuto
import Derived.Test.YtbmcojelgbkafaaDoorOfNodes1
import Derived.ProofKit
import Derived.Deep.SlicePairs
import Derived.Test.YtbmcojelgbkafaaDoorOfNodes31
import Derived.Test.YtbmcojelgbkafaaDoorRows
import Derived.LaidMore
import Derived.OpenShut
import Derived.Stop.Joined
import Derived.Stop.LaidErr
import Derived.ChangeSlices
namespace Go.Proofs.YtbmcojelgbkafaaDoor
set_option maxRecDepth 100000
set_option maxHeartbeats 8000000
section
open Go.RowKit

theorem PutPost.both {w w' : World} {g : Option (List Int)} {e : Ending} (h : PutPost w g e w') : ∃ v : Value, e = .returned (.tuple #[v, .bool g.isSome]) ∧ OwnB w.heap.size w' v (g.getD []) := by
 cases g with
 | none => obtain ⟨v, rfl, o⟩ := h; exact ⟨v, rfl, o⟩
 | some bs => obtain ⟨v, rfl, o⟩ := h; exact ⟨v, rfl, o⟩
theorem code_is {w : World} {v : Value} {l : List Int} (h : Row w v l.length (flatB l)) (hl : inByte l) : Code8 w v l := ⟨h, fun j => hl.at j⟩
theorem neq_same (b : Bool) : (b != b) = false := by cases b <;> rfl

theorem fnNodes_any (ea : Addr) (v : Value) (l : List Int) (w : World) (h : Row w v l.length (flatB l)) (hl : inByte l) (he : ErrIs ea w) :
  Calls Tryd.prog 3 #[v] w fun e w' => e = .returned (.bool true) ∧ Below w.heap.size w w' := by
 obtain ⟨a, b, off, cap, hv, hcap, hmax, _⟩ := h.bytes
 have hle : l.length ≤ maxLen := Nat.le_trans hcap hmax
 by_cases hbig : l.length ≤ 1048576
 ·have RA : Hid (∀ u, Below w.heap.size w u → Code8 u v l ∧ ErrIs ea u) := fun u hu => ⟨(code_is h hl).below hu, he.below hu⟩
  have HB := hid hbig
  clear h hl he
  rw [hv] at RA ⊢
  clear hv
  have hnb : decide (l.length > 1048576) = false := decide_eq_false (by omega)
  go_enter Tryd.func3, Tryd.ntmps3
  go_wp2_with fail
  refine (big_any _ _ _ hle _).mono ?_
  rintro e w0 ⟨rfl, hw0⟩
  subst hw0
  rw [hnb]
  clear hnb hle hcap hmax
  go_wp2_with fail
  refine Calls.mono (drawPutNode_any _ l w0 (RA.out _ (Below.refl _ _)).1 hbig) ?_
  rintro e w1 ⟨y, T, vk, ks, rfl, hl, hkl, ht, hk, b1⟩
  obtain ⟨ya1, ya2, ya3, ya4, yq1, yq2, yq3, yq4, hyy⟩ := ht.shape
  obtain ⟨ak, qk, hvk, _⟩ := hk.len
  subst hyy
  subst hvk
  have LN := hid (And.intro hl hkl)
  have LV : Hid (∀ cs, cs = (⟨T.leaf, .slice ya1 T.pairs.length yq1, .slice ya2 T.cuts.length yq2, .slice ya3 T.kids.length yq3, .slice ya4 T.buf.length yq4⟩ : TV).cells → ∀ V, V = w1.alloc (.cells cs.toArray 29) → ∀ u, Below V.heap.size V u → Bx u w1.heap.size cs ∧ TreeAt 8 u ⟨T.leaf, .slice ya1 T.pairs.length yq1, .slice ya2 T.cuts.length yq2, .slice ya3 T.kids.length yq3, .slice ya4 T.buf.length yq4⟩ T ∧ Row u (.slice ak ks.length qk) ks.length (flatI ks) ∧ Code8 u (.slice a l.length cap) l ∧ ErrIs ea u ∧ Below w0.heap.size w0 u) := by
   rintro cs rfl V rfl u hu
   have al := al1 w1 (.cells (⟨T.leaf, .slice ya1 T.pairs.length yq1, .slice ya2 T.cuts.length yq2, .slice ya3 T.kids.length yq3, .slice ya4 T.buf.length yq4⟩ : TV).cells.toArray 29)
   have hb := Below.and al hu
   have hb0 := Below.and b1 hb
   exact ⟨(Bx.start w1 rfl).step hu, ht.below hb, hk.below hb, (RA.out u hb0).1, (RA.out u hb0).2, hb0⟩
  clear hl hkl ht hk b1
  go_upto_region 4 with fail
  refine wp_gen (fun u => u = w1.alloc (.cells (⟨T.leaf, .slice ya1 T.pairs.length yq1, .slice ya2 T.cuts.length yq2, .slice ya3 T.kids.length yq3, .slice ya4 T.buf.length yq4⟩ : TV).cells.toArray 29)) rfl ?_
  intro V hV
  have LIVE := hid (LV.out _ rfl V hV)
  clear hV LV
  generalize w1.heap.size = X at *
  have F4 := hid (LIVE.out V (Below.refl _ _))
  have HP := hid (implPutNode_any ea 8 _ T _ ks V F4.out.2.1 F4.out.2.2.1 F4.out.2.2.2.2.1)
  go_wp2_with (refine ldT rfl rfl _ rfl X rfl _ F4.out.1 ?_)
  refine Calls.mono HP.out ?_
  rintro e w4 ⟨hp, b4⟩
  obtain ⟨v5, rfl, o5⟩ := hp.both
  have F5 := hid (LIVE.out w4 b4)
  have B4 := hid (And.intro b4 (OwnB.row o5))
  have HS := hid (specPutNode_any 8 _ T _ ks w4 F5.out.2.1 F5.out.2.2.1 (by have := LN.out; omega) (by have := LN.out; omega) (by have := LN.out; omega) (by have := LN.out; omega) (by have := LN.out; omega))
  clear hp b4 o5 HP F4
  go_wp2_with (refine ldT rfl rfl _ rfl X rfl _ F5.out.1 ?_)
  refine Calls.mono HS.out ?_
  rintro e w5 ⟨hp, b5⟩
  obtain ⟨v7, rfl, _⟩ := hp.both
  have B5 := hid (And.intro (Below.and B4.out.1 b5) (B4.out.2.below b5))
  clear hp b5 HS F5 B4
  have hne := neq_same (putNodeF T ks).isSome
  generalize hg : putNodeF T ks = g at *
  go_upto_if 43 with fail
  go_cut [] (fun wx => Hid (Below V.heap.size V wx))
  case first =>
   cases g with
   | none =>
    go_wp2_with fail
    go_meet
    case rel => exact hid B5.out.1
   | some bs =>
   have HG := hid (getNode_told ea T ks bs v5 w5 hg B5.out.2 (LIVE.out w5 B5.out.1).2.2.2.2.1)
   clear hne hg
   go_wp2_with fail
   refine Calls.mono HG.out ?_
   rintro e w6 ⟨⟨z, vk2, U, rfl, tz, hU, rk⟩, b6⟩
   obtain ⟨p1, p2, p3, p4, r1, r2, r3, r4, hzz⟩ := tz.shape
   obtain ⟨ul, up, uc, uk, ub⟩ := U
   obtain ⟨u1, u2, u3, u4⟩ := hU
   dsimp only at u1 u2 u3 u4 hzz
   subst u1 u2 u3 u4
   obtain ⟨k2, y2, hvk2, _⟩ := rk.len
   subst hzz
   subst hvk2
   obtain ⟨_, z1, z2, z3, _⟩ := tz.parts
   have B6 := hid (Below.and B5.out.1 b6)
   have LV : Hid (∀ cs, cs = (⟨T.leaf, .slice p1 T.pairs.length r1, .slice p2 T.cuts.length r2, .slice p3 uk.length r3, .slice p4 T.buf.length r4⟩ : TV).cells → ∀ W, W = w6.alloc (.cells cs.toArray 29) → ∀ u, Below W.heap.size W u → Bx u w6.heap.size cs ∧ Row u (.slice p1 T.pairs.length r1) T.pairs.length (flatP T.pairs) ∧ Row u (.slice p2 T.cuts.length r2) T.cuts.length (flatI T.cuts) ∧ Row u (.slice p4 T.buf.length r4) T.buf.length (flatM T.buf) ∧ Row u (.slice k2 ks.length y2) ks.length (flatI ks) ∧ Below V.heap.size V u) := by
    rintro cs rfl W rfl u hu
    have al := al1 w6 (.cells (⟨T.leaf, .slice p1 T.pairs.length r1, .slice p2 T.cuts.length r2, .slice p3 uk.length r3, .slice p4 T.buf.length r4⟩ : TV).cells.toArray 29)
    have hb := Below.and al hu
    exact ⟨(Bx.start w6 rfl).step hu, z1.below hb, z2.below hb, z3.below hb, rk.below hb, Below.and B6.out hb⟩
   clear tz rk b6 z1 z2 z3 HG B5
   go_upto_region 10 with fail
   refine wp_gen (fun u => u = w6.alloc (.cells (⟨T.leaf, .slice p1 T.pairs.length r1, .slice p2 T.cuts.length r2, .slice p3 uk.length r3, .slice p4 T.buf.length r4⟩ : TV).cells.toArray 29)) rfl ?_
   intro W hW
   have LIV2 := hid (LV.out _ rfl W hW)
   clear hW LV
   generalize w6.heap.size = X2 at *
   have F7 := hid (LIV2.out W (Below.refl _ _))
   have K7 := hid (LIVE.out W F7.out.2.2.2.2.2)
   have HC := hid (sameInts_same (.slice k2 ks.length y2) (.slice ak ks.length qk) ks W F7.out.2.2.2.2.1 K7.out.2.2.1)
   clear F7 K7
   go_wp2_with fail
   refine Calls.mono HC.out ?_
   rintro e w7 ⟨rfl, b7⟩
   have B7 := hid b7
   have F7 := hid (LIV2.out w7 b7)
   have K7 := hid (LIVE.out w7 F7.out.2.2.2.2.2)
   have c0 : w7.cell? ⟨X2, 0, none⟩ = some (.bool T.leaf) := F7.out.1.rg 0 _ rfl
   have c1 : w7.cell? ⟨X2, 1, none⟩ = some (.slice p1 T.pairs.length r1) := F7.out.1.rg 1 _ rfl
   have d0 : w7.cell? ⟨X, 0, none⟩ = some (.bool T.leaf) := K7.out.1.rg 0 _ rfl
   have d1 : w7.cell? ⟨X, 1, none⟩ = some (.slice ya1 T.pairs.length yq1) := K7.out.1.rg 1 _ rfl
   obtain ⟨_, t1, t2, t3, _⟩ := K7.out.2.1.parts
   have HC := hid (samePairs_same (.slice p1 T.pairs.length r1) (.slice ya1 T.pairs.length yq1) T.pairs w7 F7.out.2.1 t1)
   have hne := neq_same T.leaf
   clear b7 F7 K7 t1 t2 t3
   go_wp2_with fail
   refine Calls.mono HC.out ?_
   rintro e w8 ⟨rfl, b8⟩
   have B8 := hid (Below.and B7.out b8)
   have F8 := hid (LIV2.out w8 B8.out)
   have K8 := hid (LIVE.out w8 F8.out.2.2.2.2.2)
   clear c0 c1 d0 d1 b8 HC B7
   have c0 : w8.cell? ⟨X2, 2, none⟩ = some (.slice p2 T.cuts.length r2) := F8.out.1.rg 2 _ rfl
   have d0 : w8.cell? ⟨X, 2, none⟩ = some (.slice ya2 T.cuts.length yq2) := K8.out.1.rg 2 _ rfl
   obtain ⟨_, t1, t2, t3, _⟩ := K8.out.2.1.parts
   have HC := hid (sameInts_same (.slice p2 T.cuts.length r2) (.slice ya2 T.cuts.length yq2) T.cuts w8 F8.out.2.2.1 t2)
   clear F8 K8 t1 t2 t3
   go_wp2_with fail
   refine Calls.mono HC.out ?_
   rintro e w9 ⟨rfl, b9⟩
   have B9 := hid (Below.and B8.out b9)
   have F9 := hid (LIV2.out w9 B9.out)
   have K9 := hid (LIVE.out w9 F9.out.2.2.2.2.2)
   clear c0 d0 b9 HC B8
   have c0 : w9.cell? ⟨X2, 4, none⟩ = some (.slice p4 T.buf.length r4) := F9.out.1.rg 4 _ rfl
   have d0 : w9.cell? ⟨X, 4, none⟩ = some (.slice ya4 T.buf.length yq4) := K9.out.1.rg 4 _ rfl
   obtain ⟨_, t1, t2, t3, _⟩ := K9.out.2.1.parts
   have HC := hid (sameMsgs_same (.slice p4 T.buf.length r4) (.slice ya4 T.buf.length yq4) T.buf w9 F9.out.2.2.2.1 t3)
   clear F9 K9 t1 t2 t3
   go_wp2_with fail
   refine Calls.mono HC.out ?_
   rintro e w10 ⟨rfl, b10⟩
   have B10 := hid (LIV2.out w10 (Below.and B9.out b10)).2.2.2.2.2
   clear c0 d0 b10 HC B9 LIV2
   go_wp2
   go_meet
   case rel => exact B10
  case rest =>
  have BC := hid hcut.out
  have FC := hid (LIVE.out wc BC.out)
  clear hcut LIVE BC B5 hne hg
  have HD := hid (drawGetNode_any _ l wc FC.out.2.2.2.1 HB.out)
  have BB := hid FC.out.2.2.2.2.2
  clear FC
  go_wp2_with fail
  refine Calls.mono HD.out ?_
  rintro e w2 ⟨v12, R, rfl, rR, hR, hRl, b2⟩
  obtain ⟨a12, q12, hv12, _⟩ := rR.len
  subst hv12
  have B2 := hid (Below.and BB.out b2)
  have LV : Hid (∀ u, Below w2.heap.size w2 u → Row u (.slice a12 R.length q12) R.length (flatB R) ∧ ErrIs ea u ∧ Below w0.heap.size w0 u) := fun u hu => ⟨rR.below hu, (RA.out u (Below.and B2.out hu)).2, Below.and B2.out hu⟩
  have HG := hid (getNode_i ea R (.slice a12 R.length q12) w2 hR rR (LV.out w2 (Below.refl _ _)).2.1)
  have HGS := hid (fun u (hu : Below w2.heap.size w2 u) => getNode_s R (.slice a12 R.length q12) u hR (LV.out u hu).1 (by omega))
  have MATH := hid (show ((getNodeF R).isSome = false → kidsG (getNodeF R) = []) ∧ ((getNodeF R).isSome = true → putNodeF (treeG (getNodeF R)) (kidsG (getNodeF R)) = some R) from by
   cases hG : getNodeF R with
   | none => exact ⟨fun _ => rfl, fun h => by cases h⟩
   | some n => exact ⟨fun h => (by cases h), fun _ => get_put hR hG⟩)
  clear rR hR hRl b2 HD BB B2 RA
  generalize treeG (getNodeF R) = U at *
  generalize kidsG (getNodeF R) = kk at *
  generalize (getNodeF R).isSome = fn at *
  go_wp2_with fail
  refine Calls.mono HG.out ?_
  rintro e w3 ⟨⟨z, vk2, rfl, tz, rk⟩, b3⟩
  obtain ⟨p1, p2, p3, p4, r1, r2, r3, r4, hzz⟩ := tz.shape
  obtain ⟨k2, y2, hvk2, _⟩ := rk.len
  subst hzz
  subst hvk2
  have LV3 : Hid (∀ cs, cs = (⟨U.leaf, .slice p1 U.pairs.length r1, .slice p2 U.cuts.length r2, .slice p3 U.kids.length r3, .slice p4 U.buf.length r4⟩ : TV).cells → ∀ W, W = w3.alloc (.cells cs.toArray 29) → ∀ u, Below W.heap.size W u → Bx u w3.heap.size cs ∧ TreeAt 2 u ⟨U.leaf, .slice p1 U.pairs.length r1, .slice p2 U.cuts.length r2, .slice p3 U.kids.length r3, .slice p4 U.buf.length r4⟩ U ∧ Row u (.slice k2 kk.length y2) kk.length (flatI kk) ∧ Below w2.heap.size w2 u) := by
   rintro cs rfl W rfl u hu
   have al := al1 w3 (.cells (⟨U.leaf, .slice p1 U.pairs.length r1, .slice p2 U.cuts.length r2, .slice p3 U.kids.length r3, .slice p4 U.buf.length r4⟩ : TV).cells.toArray 29)
   have hb := Below.and al hu
   exact ⟨(Bx.start w3 rfl).step hu, tz.below hb, rk.below hb, Below.and b3 hb⟩
  clear tz rk b3 HG
  go_upto_region 14 with fail
  refine wp_gen (fun u => u = w3.alloc (.cells (⟨U.leaf, .slice p1 U.pairs.length r1, .slice p2 U.cuts.length r2, .slice p3 U.kids.length r3, .slice p4 U.buf.length r4⟩ : TV).cells.toArray 29)) rfl ?_
  intro W hW
  have LIVE := hid (LV3.out _ rfl W hW)
  clear hW LV3
  generalize w3.heap.size = X2 at *
  have HG := hid (HGS.out W (LIVE.out W (Below.refl _ _)).2.2.2)
  clear HGS
  go_wp2_with fail
  refine Calls.mono HG.out ?_
  rintro e w5 ⟨⟨z2, vk3, rfl, tz2, rk3⟩, b5⟩
  obtain ⟨_, _, _, _, _, _, _, _, hzz⟩ := tz2.shape
  obtain ⟨_, _, hvk3, _⟩ := rk3.len
  subst hzz
  subst hvk3
  have B5 := hid (fun o => Below.alloc b5 b5.size o)
  clear tz2 rk3 b5 HG
  have hne := neq_same fn
  go_upto_region 17 with fail
  refine wp_gen (fun u => Below W.heap.size W u) (B5.out _) ?_
  intro w6 hb6
  have B6 := hid hb6
  have F6 := hid (LIVE.out w6 hb6)
  have L6 := hid (LV.out w6 F6.out.2.2.2)
  have HP := hid (implPutNode_any ea 2 _ U _ kk w6 F6.out.2.1 F6.out.2.2.1 L6.out.2.1)
  clear hb6 B5 hne L6
  go_wp2_with (refine ldT rfl rfl _ rfl X2 rfl _ F6.out.1 ?_)
  refine Calls.mono HP.out ?_
  rintro e w7 ⟨hp, b7⟩
  obtain ⟨v19, rfl, o⟩ := hp.both
  have L7 := hid (LV.out w7 (LIVE.out w7 (Below.and B6.out b7)).2.2.2)
  clear hp b7 F6 B6 HP LIVE LV
  cases fn
  ·obtain rfl := MATH.out.1 rfl
   go_wp2
   go_ret
   exact ⟨rfl, L7.out.2.2⟩
  ·rw [MATH.out.2 rfl] at o ⊢
   obtain ⟨a19, q19, rfl, _, _⟩ := owns_shape o
   have cv1 := conv_own2 o
   have cv2 := conv_row L7.out.1
   have hSS : ((strOfNums R).toList == (strOfNums R).toList) = true := by simp
   simp only [Option.getD_some] at cv1 cv2 hSS o ⊢
   generalize strOfNums R = SP at *
   have O7 := hid o
   clear o MATH
   go_wp2_with fail
   go_ret
   exact ⟨rfl, L7.out.2.2⟩
 ·have hnb : decide (l.length > 1048576) = true := decide_eq_true (by omega)
  rw [hv]
  go_enter Tryd.func3, Tryd.ntmps3
  go_wp2_with fail
  refine (big_any _ _ _ hle _).mono ?_
  rintro e w0 ⟨rfl, hw0⟩
  subst hw0
  rw [hnb]
  go_wp2
  go_ret
  exact ⟨rfl, Below.refl _ _⟩
end
section
open Go.ChangeShapes Go.WideShapes Go.ChangeAt Go.RowKit Go.Deep

theorem Tryd.own : ownKnob Tryd.prog.godebug = none := by kernel_rfl
theorem Tryd.laidOut : laidOutB Tryd.prog = true := by kernel_rfl
end
section
open Go.ChangeShapes Go.WideShapes Go.ChangeAt Go.RowKit

def laidE : List (String × DataW Unit) := [("loop.example/g00234/impl.errMistake", Rows.laid_loop_example_g00234_impl_errMistake)]
theorem Tryd.gErr : Tryd.prog.globalNamed "loop.example/g00234/impl.errMistake" = some 0 := by kernel_rfl
theorem Tryd.gErrType : (Tryd.prog.globals[0]?).map (·.type) = some 71 := by kernel_rfl
theorem Tryd.cellsErr : Tryd.prog.cellsOf 131 = 1 := by kernel_rfl
theorem Tryd.cellsStr : Tryd.prog.cellsOf 9 = 1 := by kernel_rfl
theorem Tryd.star : "*" ++ "errors.errorString" = "*errors.errorString" := by decide
theorem Tryd.rowErr (u : TypeId) (h : Tryd.prog.typeName? 3 u = some "*errors.errorString") : u = 114 :=
 typeName_ptr_named (nm := "errors.errorString") (by rw [Tryd.star]; kernel_rfl) (by kernel_rfl) (by decide) u (by rw [Tryd.star]; exact h)

theorem door_met (os : Os) (args : Array Value) : laidMetH Tryd.prog laidE ((World.doorLaid Tryd.prog 28 os).forCall (fun _ _ => 0) ⟨#[], args, []⟩).memory :=
 laidMetH_of_parts3 (fuel := 8) (laidMet_of_run' 8 (by kernel_rfl) (by kernel_rfl)) (by kernel_rfl) (by kernel_rfl)

theorem err_of_laid {W : World} (h : laidMetH Tryd.prog laidE W) : ∃ ea : Addr, ErrIs ea W ∧ W.var? Tryd.prog "loop.example/g00234/impl.errMistake" = some #[ErrV ea] := by
 rw [MakeChecks.laidMetH_plain _ _ _ (by kernel_rfl)] at h
 obtain ⟨a0, s0, hv0, _, _, _⟩ := laid_sentinel h Tryd.gErr Tryd.gErrType Tryd.underlying71 Tryd.rowErr Tryd.underlying114 Tryd.underlying131 rfl rfl Tryd.underlying9 Tryd.cellsErr Tryd.cellsStr
 exact ⟨a0, by simpa [ErrIs, ErrV] using World.var?_cell Tryd.gErr hv0 0, hv0⟩

theorem var_below {W W' : World} {n : String} {cs : Array Value} (h : W.var? Tryd.prog n = some cs) (hb : Below W.heap.size W W') : W'.var? Tryd.prog n = some cs := by
 unfold World.var? at h ⊢
 cases hg : Tryd.prog.globalNamed n with
 | none => simp [hg] at h
 | some g =>
  simp only [hg, Option.bind_some] at h ⊢
  have hlt : g < W.heap.size := by
   cases hh : W.heap[g]? with
   | none => rw [hh] at h; cases h
   | some o => exact (Array.getElem?_eq_some_iff.1 hh).1
  rw [hb.block g hlt]; exact h

theorem Tryd.cellsByte : Tryd.prog.cellsOf 5 = 1 := by kernel_rfl
theorem arg_bytes {H : Type} {enc : TypeId × Value → H} {W : World} {r : Reach} {b0 : Nat} {v : Value} {d : DataW H} {p : List MemPlace}
  (hv : Value.okWide Tryd.prog W r b0 22 v) (h : DataW.Trod enc Tryd.prog W 0 (fun _ => true) true 22 v d p) : ∃ bs : List Int, Row W v bs.length (flatB bs) ∧ inByte bs := by
 obtain ⟨a0, len, cap, rfl⟩ := okWide_slice Tryd.underlying22 hv
 obtain ⟨fuel, hf⟩ := h
 rcases open_ints Tryd.underlying22 Tryd.underlying5 Tryd.cellsByte hf with ⟨hcs, _⟩ | ⟨a, len', cap', zs, hcs, _, hl, hm, hmm, _, hx, hwf⟩
 ·simp [Value.cells] at hcs
  obtain ⟨rfl, rfl, rfl⟩ := hcs
  exact ⟨[], ⟨none, 0, 0, 0, rfl, Nat.le_refl _, Nat.zero_le _, fun h => absurd h (Nat.lt_irrefl _), fun j u hj => by simp [flatB] at hj, fun _ => rfl⟩, fun j hj => by cases hj⟩
 ·simp [Value.cells] at hcs
  obtain ⟨rfl, rfl, rfl⟩ := hcs
  simp only [if_true] at hmm
  obtain ⟨b, off, spot⟩ := a
  have hl0 : (zs.take len).length = len := by simp; omega
  refine ⟨zs.take len, ⟨some ⟨b, off, spot⟩, b, off, cap, by rw [hl0], by rw [hl0]; exact hl, hm, fun h => ?_, ?_, fun h => by cases h⟩, ?_⟩
  ·rw [hl0] at h
   have hspot : spot = none := by simpa [Addr.add] using World.cell?_spot (hx 0 (by omega))
   rw [hspot]
  ·intro j u hj
   have hjl := (List.getElem?_eq_some_iff.1 hj).1
   rw [flatB_length, hl0] at hjl
   have hspot : spot = none := by simpa [Addr.add] using World.cell?_spot (hx 0 (by omega))
   subst hspot
   have hc := hx j (by omega)
   rw [add_plain] at hc
   rw [hc, ← hj, flatB, List.getElem?_map, List.getElem?_take_of_lt hjl, List.getElem?_eq_getElem (by omega)]
   simp [List.getD, show j < zs.length by omega]
  ·intro z hz
   have hm2 : z ∈ zs := List.mem_of_mem_take hz
   have := hwf _ hm2
   simp only [Lit.wf, Bool.and_eq_true, decide_eq_true_eq] at this
   have e1 : IntKind.u8.min = 0 := by decide
   have e2 : IntKind.u8.max = 255 := by decide
   rw [e1, e2] at this
   exact this
end
end Go.Proofs.YtbmcojelgbkafaaDoor
