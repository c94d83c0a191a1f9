/-
  The contract of the model's l2Depth.
  Contracts of the model's chapter 2: TreeDepth, TreeOk, l2Count, TreeCount, l2Kid, KidOf.
  Contracts of the model's chapter 2: TreeCount, l2Kid, KidOf; of the program's countAll, kidAt.
  Trees that own their memory; contracts of the laws' own functions that copy a tree.
  Contracts of the laws' own functions that copy a tree, of any height.
  Contracts of the program's chapter 2: kindOf, tooDeep, has, splits, rootOf, kid.
  Contracts of the program's chapter 2: rootOf, kid.
  The contract of the program's kid.
  Contracts of the program's chapter 2: pairsOk, cutsOk, bufOk.
  Contracts of the program's chapter 2: bufOk.
-/
import Derived.Test.YtbmcojelgbkafaaDoorOfNodes2
import Derived.Deep.DeepCutAuto
namespace Go.Proofs.YtbmcojelgbkafaaDoor
set_option maxRecDepth 100000
set_option maxHeartbeats 8000000
section
open Go.RowKit

theorem leafD_depth {m : Nat} {T : Tr} {lo hi : Int} (h : T.leaf = true) : leafD T lo hi = (depthF (m + 1) T lo hi : Int) := by
 rw [depthF_leaf h, leafD]; split <;> rfl
theorem fork_no_shape {T : Tr} {lo hi : Int} (h : shapeB T = false) : forkOkB T lo hi = false := by simp [forkOkB, h]
theorem fork_no_buf {T : Tr} {lo hi : Int} {i : Nat} (hi' : i < T.buf.length) (h : msgAt T lo hi i = false) : forkOkB T lo hi = false := by rw [forkOkB, bufOkB, allB_false hi' h]; simp
theorem fork_no_cut {T : Tr} {lo hi : Int} {i : Nat} (hi' : i < T.cuts.length) (h : cutAt T lo hi i = false) : forkOkB T lo hi = false := by rw [forkOkB, cutsOkB, allB_false hi' h]; simp
theorem fork_yes {T : Tr} {lo hi : Int} (h1 : shapeB T = true) (h2 : ∀ i, i < T.buf.length → msgAt T lo hi i = true) (h3 : ∀ i, i < T.cuts.length → cutAt T lo hi i = true) : forkOkB T lo hi = true := by
 rw [forkOkB, h1, bufOkB, allB_true h2, cutsOkB, allB_true h3]; rfl
theorem shape_no1 {T : Tr} (h : ¬ T.pairs.length = 0) : shapeB T = false := by rw [shapeB, decide_eq_false h]; rfl
theorem shape_no2 {T : Tr} (h : inB (T.kids.length : Int) 2 4 = false) : shapeB T = false := by
 have : ¬ (2 ≤ T.kids.length ∧ T.kids.length ≤ 4) := by
  intro hc
  rw [inB_true (by omega) (by omega)] at h
  cases h
 rw [shapeB, decide_eq_false this]; simp
theorem shape_no3 {T : Tr} (h : ¬ T.cuts.length + 1 = T.kids.length) : shapeB T = false := by rw [shapeB, decide_eq_false h]; simp
theorem shape_no4 {T : Tr} (h : ¬ T.buf.length ≤ 6) : shapeB T = false := by rw [shapeB, decide_eq_false h]; simp
theorem shape_yes {T : Tr} (h1 : T.pairs.length = 0) (h2 : inB (T.kids.length : Int) 2 4 = true) (h3 : T.cuts.length + 1 = T.kids.length) (h4 : T.buf.length ≤ 6) : shapeB T = true := by
 have h2' := inB_iff.1 h2
 rw [shapeB, decide_eq_true h1, decide_eq_true (p := 2 ≤ T.kids.length ∧ T.kids.length ≤ 4) (by omega), decide_eq_true h3, decide_eq_true h4]; rfl

def L2Depth (m : Nat) : Prop := ∀ (n : Nat) (x : TV) (T : Tr) (lo hi : Int) (w : World), TreeAt n w x T → sizeT n T ≤ 1099511627776 → 0 ≤ lo → lo ≤ 1000 → 0 ≤ hi → hi ≤ 1000 →
  Calls Tryd.prog 69 #[x.val, .int .i64 lo, .int .i64 hi, .int .i64 m] w fun e w' => e = .returned (.int .i64 (depthF m T lo hi : Nat)) ∧ Below w.heap.size w w'

theorem l2Depth_zero : L2Depth 0 := by
 intro n x T lo hi w ht _ _ _ _ _
 have E : depthF 0 T lo hi = 0 := rfl
 rw [E]
 show Calls Tryd.prog 69 #[.agg #[.bool x.lf, x.p, x.c, x.k, x.b], .int .i64 lo, .int .i64 hi, .int .i64 0] w _
 go_enter Tryd.func69, Tryd.ntmps69
 go_wp2
 go_ret
 exact ⟨rfl, (Below.refl _ _).alloc (Nat.le_refl _) _⟩

theorem l2Depth_leaf {m : Nat} (hm : m ≤ 1000) (n : Nat) (x : TV) (T : Tr) (lo hi : Int) (w : World) (ht : TreeAt n w x T) (hlf : T.leaf = true) (hsz : sizeT n T ≤ 1099511627776) (hh0 : 0 ≤ hi) (hh1 : hi ≤ 1000) :
  Calls Tryd.prog 69 #[x.val, .int .i64 lo, .int .i64 hi, .int .i64 ((m + 1 : Nat) : Int)] w fun e w' => e = .returned (.int .i64 (depthF (m + 1) T lo hi : Nat)) ∧ Below w.heap.size w w' := by
 have E : Hid (leafD T lo hi = (depthF (m + 1) T lo hi : Int)) := leafD_depth hlf
 have hlx : x.lf = true := by
  cases n with
  | zero => exact ht.elim
  | succ n => exact ht.parts.1.trans hlf
 have TT : Hid (TreeAt n w x T) := ht
 generalize depthF (m + 1) T lo hi = d at *
 have hne : (((m + 1 : Nat) : Int) == 0) = false := by rw [beq_eq_false_iff_ne]; omega
 obtain ⟨lf, p, c, k, b⟩ := x
 simp only at hlx
 subst hlx
 have B0 : Hid _ := bel_box w #[.bool true, p, c, k, b]
 clear ht
 show Calls Tryd.prog 69 #[.agg #[.bool true, p, c, k, b], .int .i64 lo, .int .i64 hi, .int .i64 ((m + 1 : Nat) : Int)] w _
 go_enter Tryd.func69, Tryd.ntmps69
 go_wp2_with fail
 refine (l2Leaf_any n ⟨true, p, c, k, b⟩ T lo hi _ (TT.out.below B0.out) hsz hh0 hh1).mono ?_
 rintro e w1 ⟨he, hb1⟩
 rw [E.out] at he
 subst he
 have B1 : Hid (Below w.heap.size w w1) := Below.and B0.out hb1
 clear hb1 B0
 go_wp2
 go_ret
 exact ⟨rfl, B1.out⟩

theorem fromT_succ {T : Tr} {lo hi : Int} {k : Nat} (h : k < T.cuts.length) : toT T hi k = fromT T lo (k + 1) := by
 simp [toT, fromT, h]

theorem l2Depth_fork {m : Nat} (hm : m ≤ 1000) (H : L2Depth m) (n : Nat) (x : TV) (T : Tr) (lo hi : Int) (w : World) (ht : TreeAt n w x T) (hlf : T.leaf = false) (hsz : sizeT n T ≤ 1099511627776) (hl0 : 0 ≤ lo) (hl1 : lo ≤ 1000) (hh0 : 0 ≤ hi) (hh1 : hi ≤ 1000) :
  Calls Tryd.prog 69 #[x.val, .int .i64 lo, .int .i64 hi, .int .i64 ((m + 1 : Nat) : Int)] w fun e w' => e = .returned (.int .i64 (depthF (m + 1) T lo hi : Nat)) ∧ Below w.heap.size w w' := by
 cases n with
 | zero => exact ht.elim
 | succ n =>
 obtain ⟨lf, p, c, k, b⟩ := x
 obtain ⟨hlx, hp, hc, hb, hk⟩ := ht.parts
 simp only at hlx hp hc hb hk
 rw [hlf] at hlx
 subst hlx
 have NO : Hid (forkOkB T lo hi = false → depthF (m + 1) T lo hi = 0) := depthF_no hlf
 have YES : Hid (forkOkB T lo hi = true → depthF (m + 1) T lo hi = kidsD (kidF m T lo hi) T.kids.length) := depthF_fork hlf
 generalize depthF (m + 1) T lo hi = D at *
 obtain ⟨a1, q1, rfl, _⟩ := hp.len
 obtain ⟨a2, b2, off2, q2, rfl, hcap2, hmax2, ha2, cc⟩ := hc.ints
 obtain ⟨xs, hxl, hrow, hkt⟩ := hk
 obtain ⟨a3, b3, off3, q3, he3, hcap3, hmax3, ha3, c0, c1, c2, c3, c4⟩ := hrow.trees
 rw [hxl] at he3 hcap3 ha3 c0 c1 c2 c3 c4 hkt
 subst he3
 obtain ⟨a4, b4, off4, q4, rfl, hcap4, hmax4, ha4, go, gk, gv⟩ := hb.msgs
 have hS : sizeT (n + 1) T = T.pairs.length + (T.cuts.length + (T.kids.length + (T.kids.map (sizeT n)).sum + T.buf.length)) := rfl
 have KSZ : Hid (∀ i, i < T.kids.length → sizeT n (kidT T i) ≤ 1099511627776) := fun i hi => by have := sizeT_kid (n := n) hi; omega
 have m1 : T.pairs.length ≤ 1099511627776 := by omega
 have m2 : T.cuts.length ≤ 1099511627776 := by omega
 have m3 : T.kids.length ≤ 1099511627776 := by omega
 have m4 : T.buf.length ≤ 1099511627776 := by omega
 unfold maxLen at hmax2 hmax3 hmax4
 clear hS hsz hp hc hb hrow ht
 have KT := hid (hkt)
 have HH : Hid (L2Depth m) := H
 clear H hkt hxl hlf
 generalize g1 : T.pairs.length = n1 at *
 generalize g2 : T.cuts.length = n2 at *
 generalize g3 : T.kids.length = n3 at *
 generalize g4 : T.buf.length = n4 at *
 generalize gM : ((m + 1 : Nat) : Int) = M
 have G1 := hid (g1)
 have G2 := hid (g2)
 have G3 := hid (g3)
 have G4 := hid (g4)
 have hne : (M == 0) = false := by rw [beq_eq_false_iff_ne]; omega
 have hM0 : 0 < M := by omega
 have hM1 : M ≤ 1001 := by omega
 have MM : Hid (M - 1 = (m : Int)) := by show _ = _; omega
 clear g1 g2 g3 g4 gM
 show Calls Tryd.prog 69 #[.agg #[.bool false, .slice a1 n1 q1, .slice a2 n2 q2, .slice a3 n3 q3, .slice a4 n4 q4], .int .i64 lo, .int .i64 hi, .int .i64 M] w _
 have B0 : Hid _ := bel_box w #[.bool false, .slice a1 n1 q1, .slice a2 n2 q2, .slice a3 n3 q3, .slice a4 n4 q4]
 have S0 := hid (OneAt.start w #[.bool false, .slice a1 n1 q1, .slice a2 n2 q2, .slice a3 n3 q3, .slice a4 n4 q4])
 by_cases hp0 : n1 = 0
 case neg =>
  have E := NO.out (fork_no_shape (shape_no1 (by rw [G1.out]; exact hp0)))
  have hp1 : (0 : Int) < (n1 : Int) := by omega
  subst E
  clear NO YES KT KSZ ha2 cc ha3 c0 c1 c2 c3 c4 ha4 go gk gv S0 hp0
  go_enter Tryd.func69, Tryd.ntmps69
  go_wp2
  go_ret
  exact ⟨ret_int (by simp), B0.out⟩
 case pos =>
 subst hp0
 cases hin : inB (n3 : Int) 2 4
 ·have E := NO.out (fork_no_shape (shape_no2 (by rw [G3.out]; exact hin)))
  subst E
  clear NO YES KT KSZ ha2 cc ha3 c0 c1 c2 c3 c4 ha4 go gk gv S0
  go_enter Tryd.func69, Tryd.ntmps69
  go_wp2_with (go_at_call 27; refine (l1In_any _ _ _ _).mono ?_; rintro e w' ⟨rfl, rfl⟩)
  go_ret
  exact ⟨ret_int (by simp), B0.out⟩
 by_cases hcl : n2 + 1 = n3
 case neg =>
  have E := NO.out (fork_no_shape (shape_no3 (by rw [G2.out, G3.out]; exact hcl)))
  have hcl1 : ((n2 : Int) != (n3 : Int) - 1) = true := by rw [bne_iff_ne]; omega
  subst E
  clear NO YES KT KSZ ha2 cc ha3 c0 c1 c2 c3 c4 ha4 go gk gv S0 hcl
  go_enter Tryd.func69, Tryd.ntmps69
  go_wp2_with (go_at_call 27; refine (l1In_any _ _ _ _).mono ?_; rintro e w' ⟨rfl, rfl⟩)
  go_ret
  exact ⟨ret_int (by simp), B0.out⟩
 case pos =>
 have hcl1 : ((n2 : Int) != (n3 : Int) - 1) = false := by rw [bne_eq_false_iff_eq]; omega
 by_cases hb6 : n4 ≤ 6
 case neg =>
  have E := NO.out (fork_no_shape (shape_no4 (by rw [G4.out]; exact hb6)))
  have hb61 : (6 : Int) < (n4 : Int) := by omega
  subst E
  clear NO YES KT KSZ ha2 cc ha3 c0 c1 c2 c3 c4 ha4 go gk gv S0 hcl hb6
  go_enter Tryd.func69, Tryd.ntmps69
  go_wp2_with (go_at_call 27; refine (l1In_any _ _ _ _).mono ?_; rintro e w' ⟨rfl, rfl⟩)
  go_ret
  exact ⟨ret_int (by simp), B0.out⟩
 case pos =>
 have SH := hid (shape_yes G1.out (by rw [G3.out]; exact hin) (by rw [G2.out, G3.out]; exact hcl) (by rw [G4.out]; exact hb6))
 have hb61 : ¬ (6 : Int) < (n4 : Int) := by omega
 have CL := hid (hcl)
 have C0 := hid (c0)
 have C1 := hid (c1)
 have C2 := hid (c2)
 have C3 := hid (c3)
 have C4 := hid (c4)
 have CC := hid (cc)
 have GO := hid (go)
 have GK := hid (gk)
 have GV := hid (gv)
 have A2 := hid (ha2)
 have A3 := hid (ha3)
 have A4 := hid (ha4)
 clear hcl c0 c1 c2 c3 c4 cc go gk gv ha2 ha3 ha4
 go_enter Tryd.func69, Tryd.ntmps69
 go_wp2_with (go_at_call 27; refine (l1In_any _ _ _ _).mono ?_; rintro e w' ⟨rfl, rfl⟩)
 go_loopw [10] (fun i wr => ∃ k : Nat, k ≤ n4 ∧ i = .int .i64 k ∧ Hid (∀ i, i < k → msgAt T lo hi i = true) ∧ Hid (Below w.heap.size w wr) ∧ Hid (OneAt wr w.heap.size #[.bool false, .slice a1 0 q1, .slice a2 n2 q2, .slice a3 n3 q3, .slice a4 n4 q4]))
  (fun i _ => n4 - (intOf i).toNat)
 case atStart => exact ⟨0, Nat.zero_le _, rfl, fun i hi => absurd hi (Nat.not_lt_zero _), B0.out, S0.out⟩
 case round =>
  obtain ⟨k, hkl, rfl, ALL, BB, SS⟩ := hrel
  clear B0 S0
  have k0 := SS.out.cells
  by_cases hlt : k < n4
  ·have hal := A4.out (by omega)
   subst hal
   have e0 := (BB.out.cell (by exact cell_lt (GO.out k hlt))).trans (GO.out k hlt)
   have e1 := (BB.out.cell (by exact cell_lt (GK.out k hlt))).trans (GK.out k hlt)
   have e2 := (BB.out.cell (by exact cell_lt (GV.out k hlt))).trans (GV.out k hlt)
   cases hmo : msgOkB (mO T.buf k) (mK T.buf k) (mV T.buf k)
   ·have E := NO.out (fork_no_buf (i := k) (by rw [G4.out]; exact hlt) (by rw [msgAt, hmo]; rfl))
    subst E
    go_wp2_with fail
    refine (specMsgOk_any _ _ _ _).mono ?_
    rintro e w1 ⟨he, hb1⟩
    rw [hmo] at he
    subst he
    have B1 := hid (Below.and BB.out hb1)
    clear hb1
    go_wp2
    go_ret
    exact ⟨ret_int (by simp), B1.out⟩
   ·cases ho : (mO T.buf k == 4)
    ·cases hq : inB (mK T.buf k) lo (hi - 1)
     ·have E := NO.out (fork_no_buf (i := k) (by rw [G4.out]; exact hlt) (by rw [msgAt, hq]; simp))
      subst E
      go_wp2_with fail
      refine (specMsgOk_any _ _ _ _).mono ?_
      rintro e w1 ⟨he, hb1⟩
      rw [hmo] at he
      subst he
      have B1 := hid (Below.and BB.out hb1)
      have f0 := (hb1.cell (by exact cell_lt e0)).trans e0
      have f1 := (hb1.cell (by exact cell_lt e1)).trans e1
      have f2 := (hb1.cell (by exact cell_lt e2)).trans e2
      have k1 := (SS.out.step hb1).cells
      clear hb1
      go_wp2_with (go_at_call 27; refine (l1In_any _ _ _ _).mono ?_; rintro e w' ⟨rfl, rfl⟩)
      go_ret
      exact ⟨ret_int (by simp), B1.out⟩
     ·have OK : Hid (msgAt T lo hi k = true) := by
       show _ = _
       rw [msgAt, hmo, ho, hq]; rfl
      go_wp2_with fail
      refine (specMsgOk_any _ _ _ _).mono ?_
      rintro e w1 ⟨he, hb1⟩
      rw [hmo] at he
      subst he
      have B1 := hid (Below.and BB.out hb1)
      have f0 := (hb1.cell (by exact cell_lt e0)).trans e0
      have f1 := (hb1.cell (by exact cell_lt e1)).trans e1
      have f2 := (hb1.cell (by exact cell_lt e2)).trans e2
      have S1 := hid (SS.out.step hb1)
      have k1 := S1.out.cells
      clear hb1
      go_wp2_with (go_at_call 27; refine (l1In_any _ _ _ _).mono ?_; rintro e w' ⟨rfl, rfl⟩)
      go_roundw
      case rel => exact ⟨k + 1, by omega, by go_num, fun i hi => if h : i < k then ALL.out i h else by rw [show i = k by omega]; exact OK.out, B1, S1⟩
      case measure => simp [intOf]; omega
    ·have E := NO.out (fork_no_buf (i := k) (by rw [G4.out]; exact hlt) (by rw [msgAt, ho]; simp))
     subst E
     go_wp2_with fail
     refine (specMsgOk_any _ _ _ _).mono ?_
     rintro e w1 ⟨he, hb1⟩
     rw [hmo] at he
     subst he
     have B1 := hid (Below.and BB.out hb1)
     have f0 := (hb1.cell (by exact cell_lt e0)).trans e0
     have f1 := (hb1.cell (by exact cell_lt e1)).trans e1
     have f2 := (hb1.cell (by exact cell_lt e2)).trans e2
     have k1 := (SS.out.step hb1).cells
     clear hb1
     go_wp2
     go_ret
     exact ⟨ret_int (by simp), B1.out⟩
  ·have BUF := hid (fun i (hi : i < T.buf.length) => ALL.out i (by rw [G4.out] at hi; omega))
   have ZERO : Hid (kidsD (kidF m T lo hi) n3 = 0 → D = 0) := fun h => by
    cases hf : forkOkB T lo hi
    ·exact NO.out hf
    ·rw [YES.out hf]; exact h
   clear GO GK GV A4 ALL
   go_wp2
   clear hlt hkl
   go_loopw [11, 12, 13] (fun dp fr i wr => ∃ (k d : Nat) (y : Int), k ≤ n3 ∧ i = .int .i64 k ∧ dp = .int .i64 d ∧ fr = .int .i64 y ∧ 0 ≤ y ∧ y ≤ 1000 ∧ d ≤ 1000 ∧ Hid (k < n3 → y = fromT T lo k) ∧
     Hid ((0 < k → d = kidF m T lo hi 0 ∧ d ≠ 0) ∧ (∀ i, i < k → kidF m T lo hi i = kidF m T lo hi 0) ∧ (∀ i, i < k → i < n2 → cutAt T lo hi i = true)) ∧ Hid (Below w.heap.size w wr) ∧ Hid (OneAt wr w.heap.size #[.bool false, .slice a1 0 q1, .slice a2 n2 q2, .slice a3 n3 q3, .slice a4 n4 q4]))
    (fun _ _ i _ => n3 - (intOf i).toNat)
   case atStart => exact ⟨0, 0, lo, Nat.zero_le _, rfl, rfl, rfl, hl0, hl1, by omega, fun _ => rfl, ⟨fun h => absurd h (Nat.lt_irrefl _), fun i hi => absurd hi (Nat.not_lt_zero _), fun i hi => absurd hi (Nat.not_lt_zero _)⟩, BB, SS⟩
   case round =>
   clear BB SS k0
   obtain ⟨k, d, y, hkl, rfl, rfl, rfl, hy0, hy1, hd, YF, INV, BB, SS⟩ := hrel
   have k0 := SS.out.cells
   by_cases hlt : k < n3
   ·have hal := A3.out (by omega)
    subst hal
    have e0 := (BB.out.cell (by exact cell_lt (C0.out k hlt))).trans (C0.out k hlt)
    have e1 := (BB.out.cell (by exact cell_lt (C1.out k hlt))).trans (C1.out k hlt)
    have e2 := (BB.out.cell (by exact cell_lt (C2.out k hlt))).trans (C2.out k hlt)
    have e3 := (BB.out.cell (by exact cell_lt (C3.out k hlt))).trans (C3.out k hlt)
    have e4 := (BB.out.cell (by exact cell_lt (C4.out k hlt))).trans (C4.out k hlt)
    have T0 := hid ((KT.out k hlt).below BB.out)
    have TS := hid (KSZ.out k hlt)
    have Y0 := hid (YF.out hlt)
    obtain ⟨z, hz⟩ : ∃ z, kidF m T lo hi k = z := ⟨_, rfl⟩
    have ZE := hid (hz)
    clear hz
    by_cases hlast : k < n2
    ·have hl3 : (k : Int) < (n3 : Int) - 1 := by have := CL.out; omega
     have hal2 := A2.out (by omega)
     subst hal2
     have ec := (BB.out.cell (by exact cell_lt (CC.out k hlast))).trans (CC.out k hlast)
     cases hcut : inB (iAt T.cuts k) (y + 1) (hi - 1)
     ·have E := NO.out (fork_no_cut (i := k) (by rw [G2.out]; exact hlast) (by rw [cutAt, ← Y0.out]; exact hcut))
      subst E
      clear T0 e0 e1 e2 e3 e4
      go_wp2_with (go_at_call 27; refine (l1In_any _ _ _ _).mono ?_; rintro e w' ⟨rfl, rfl⟩)
      go_ret
      exact ⟨ret_int (by simp), BB.out⟩
     ·have hc2 := inB_iff.1 hcut
      obtain ⟨TO, hTO⟩ : ∃ TO, iAt T.cuts k = TO := ⟨_, rfl⟩
      have TO0 : 0 ≤ TO := by omega
      have TO1 : TO ≤ 1000 := by omega
      have TOE : Hid (toT T hi k = TO) := by
       show _ = _
       rw [toT, if_pos (by rw [G2.out]; exact hlast), hTO]
      have NX : Hid (k + 1 < n3 → TO = fromT T lo (k + 1)) := fun _ => by rw [← TOE.out]; exact fromT_succ (by rw [G2.out]; exact hlast)
      have CU : ∀ i, i < k + 1 → i < n2 → cutAt T lo hi i = true := fun i hi h2 => if h : i < k then INV.out.2.2 i h h2 else by rw [show i = k by omega, cutAt, ← Y0.out]; exact hcut
      rw [hTO] at ec hcut
      have EE : Hid (depthF m (kidT T k) y TO = z) := by
       show _ = _
       rw [← ZE.out, kidF, ← Y0.out, TOE.out]
      have HC := HH.out n (tvAt xs k) (kidT T k) y TO wr T0.out TS.out hy0 hy1 TO0 TO1
      rw [← MM.out] at HC
      have HC' : Hid _ := HC
      have CU' := hid (CU)
      clear HC CU hc2
      go_wp2_with (go_at_call 27; refine (l1In_any _ _ _ _).mono ?_; rintro e w' ⟨rfl, rfl⟩)
      refine Calls.mono HC'.out ?_
      rintro e w1 ⟨he, hb1⟩
      rw [EE.out] at he
      subst he
      have B1 := hid (Below.and BB.out hb1)
      have S1 := hid (SS.out.step hb1)
      have k1 := S1.out.cells
      have ZL : z ≤ 1000 := by
       have := depthF_le m (kidT T k) (fromT T lo k) (toT T hi k)
       have h2 := ZE.out
       unfold kidF at h2
       omega
      clear hb1 T0 e0 e1 e2 e3 e4
      by_cases hz : z = 0
      ·have E := ZERO.out (kidsD_zero (i := k) hlt (by rw [ZE.out]; exact hz))
       subst E
       subst hz
       go_wp2
       go_ret
       exact ⟨ret_int (by simp), B1.out⟩
      ·have hz1 : ((z : Int) == 0) = false := by rw [beq_eq_false_iff_ne]; omega
       cases k with
       | zero =>
        go_wp2
        go_roundw
        case rel => exact ⟨1, z, TO, by omega, by go_num, rfl, rfl, TO0, TO1, ZL, NX, ⟨fun _ => ⟨ZE.out.symm, hz⟩, fun i hi => by rw [show i = 0 by omega], CU'.out⟩, B1, S1⟩
        case measure => simp [intOf]; omega
       | succ k =>
        have hpos : (0 : Int) < ((k + 1 : Nat) : Int) := by omega
        have HD0 := hid ((INV.out.1 (by omega)).1)
        by_cases hzd : z = d
        ·have hzd1 : ((z : Int) != (d : Int)) = false := by rw [bne_eq_false_iff_eq]; omega
         have HZ : Hid (z = d) := hzd
         clear hzd
         go_wp2
         go_roundw
         case rel => exact ⟨k + 1 + 1, z, TO, by omega, by go_num, rfl, rfl, TO0, TO1, ZL, NX, ⟨fun _ => ⟨by rw [HZ.out]; exact HD0.out, hz⟩, fun i hi => if h : i < k + 1 then INV.out.2.1 i h else by rw [show i = k + 1 by omega, ZE.out, HZ.out]; exact HD0.out, CU'.out⟩, B1, S1⟩
         case measure => simp [intOf]; omega
        ·have hzd1 : ((z : Int) != (d : Int)) = true := by rw [bne_iff_ne]; omega
         have E := ZERO.out (kidsD_ne (i := k + 1) hlt (by rw [ZE.out, ← HD0.out]; exact hzd))
         subst E
         go_wp2
         go_ret
         exact ⟨ret_int (by simp), B1.out⟩
    ·have hl3 : ¬ (k : Int) < (n3 : Int) - 1 := by have := CL.out; omega
     obtain ⟨TO, hTO⟩ : ∃ TO, hi = TO := ⟨_, rfl⟩
     have TO0 : 0 ≤ TO := by omega
     have TO1 : TO ≤ 1000 := by omega
     have TOE : Hid (toT T hi k = TO) := by
      show _ = _
      rw [toT, if_neg (by rw [G2.out]; exact hlast), hTO]
     have NX : Hid (k + 1 < n3 → TO = fromT T lo (k + 1)) := fun h => absurd h (by have := CL.out; omega)
     have CU' := hid (fun i (hi : i < k + 1) (h2 : i < n2) => if h : i < k then INV.out.2.2 i h h2 else absurd h2 (by omega))
     have EE : Hid (depthF m (kidT T k) y TO = z) := by
      show _ = _
      rw [← ZE.out, kidF, ← Y0.out, TOE.out]
     have HC := HH.out n (tvAt xs k) (kidT T k) y TO wr T0.out TS.out hy0 hy1 TO0 TO1
     rw [← MM.out] at HC
     have HC' : Hid _ := HC
     clear HC
     rw [← hTO] at HC' EE TO0 TO1 NX TOE
     clear hTO
     go_wp2_with fail
     refine Calls.mono HC'.out ?_
     rintro e w1 ⟨he, hb1⟩
     rw [EE.out] at he
     subst he
     have B1 := hid (Below.and BB.out hb1)
     have S1 := hid (SS.out.step hb1)
     have k1 := S1.out.cells
     have ZL : z ≤ 1000 := by
      have := depthF_le m (kidT T k) (fromT T lo k) (toT T hi k)
      have h2 := ZE.out
      unfold kidF at h2
      omega
     clear hb1 T0 e0 e1 e2 e3 e4
     by_cases hz : z = 0
     ·have E := ZERO.out (kidsD_zero (i := k) hlt (by rw [ZE.out]; exact hz))
      subst E
      subst hz
      go_wp2
      go_ret
      exact ⟨ret_int (by simp), B1.out⟩
     ·have hz1 : ((z : Int) == 0) = false := by rw [beq_eq_false_iff_ne]; omega
      cases k with
      | zero =>
       go_wp2
       go_roundw
       case rel => exact ⟨1, z, hi, by omega, by go_num, rfl, rfl, TO0, TO1, ZL, NX, ⟨fun _ => ⟨ZE.out.symm, hz⟩, fun i hi => by rw [show i = 0 by omega], CU'.out⟩, B1, S1⟩
       case measure => simp [intOf]; omega
      | succ k =>
       have hpos : (0 : Int) < ((k + 1 : Nat) : Int) := by omega
       have HD0 := hid ((INV.out.1 (by omega)).1)
       by_cases hzd : z = d
       ·have hzd1 : ((z : Int) != (d : Int)) = false := by rw [bne_eq_false_iff_eq]; omega
        have HZ : Hid (z = d) := hzd
        clear hzd
        go_wp2
        go_roundw
        case rel => exact ⟨k + 1 + 1, z, hi, by omega, by go_num, rfl, rfl, TO0, TO1, ZL, NX, ⟨fun _ => ⟨by rw [HZ.out]; exact HD0.out, hz⟩, fun i hi => if h : i < k + 1 then INV.out.2.1 i h else by rw [show i = k + 1 by omega, ZE.out, HZ.out]; exact HD0.out, CU'.out⟩, B1, S1⟩
        case measure => simp [intOf]; omega
       ·have hzd1 : ((z : Int) != (d : Int)) = true := by rw [bne_iff_ne]; omega
        have E := ZERO.out (kidsD_ne (i := k + 1) hlt (by rw [ZE.out, ← HD0.out]; exact hzd))
        subst E
        go_wp2
        go_ret
        exact ⟨ret_int (by simp), B1.out⟩
   ·have hkk : k = n3 := by omega
    have hk0 : 0 < k := by have := CL.out; omega
    obtain ⟨hd0, hd1⟩ := INV.out.1 hk0
    have E : Hid (D = d + 1) := by
     show _ = _
     rw [YES.out (fork_yes SH.out BUF.out (fun i hi => INV.out.2.2 i (by have := CL.out; rw [G2.out] at hi; omega) (by rw [G2.out] at hi; exact hi))), kidsD_yes (by rw [← hd0]; exact hd1) (fun i hi => INV.out.2.1 i (by omega)), hd0]
    clear hd0 hd1
    go_wp2
    go_ret
    exact ⟨ret_int (by rw [E.out]; omega), BB.out⟩

theorem l2Depth_any : ∀ m, m ≤ 1000 → L2Depth m
 | 0, _ => l2Depth_zero
 | m + 1, hm => fun n x T lo hi w ht hsz hl0 hl1 hh0 hh1 => by
  cases hlf : T.leaf
  ·exact l2Depth_fork (by omega) (l2Depth_any m (by omega)) n x T lo hi w ht hlf hsz hl0 hl1 hh0 hh1
  ·exact l2Depth_leaf (by omega) n x T lo hi w ht hlf hsz hh0 hh1
end
section
open Go.RowKit

theorem specTreeDepth_any (n : Nat) (x : TV) (T : Tr) (w : World) (ht : TreeAt n w x T) (hsz : sizeT n T ≤ 1099511627776) :
  Calls Tryd.prog 59 #[x.val] w fun e w' => e = .returned (.int .i64 (depthT T : Nat)) ∧ Below w.heap.size w w' := by
 have TT : Hid (TreeAt n w x T) := ht
 clear ht
 obtain ⟨lf, p, c, k, b⟩ := x
 have B0 : Hid _ := bel_box w #[.bool lf, p, c, k, b]
 have HC := l2Depth_any 7 (by omega) n ⟨lf, p, c, k, b⟩ T 0 1000 _ (TT.out.below B0.out) hsz (by omega) (by omega) (by omega) (by omega)
 have HC' : Hid _ := HC
 clear HC
 show Calls Tryd.prog 59 #[.agg #[.bool lf, p, c, k, b]] w _
 unfold depthT
 generalize depthF 7 T 0 1000 = d at *
 go_enter Tryd.func59, Tryd.ntmps59
 go_wp2_with fail
 refine Calls.mono HC'.out ?_
 rintro e w1 ⟨rfl, hb1⟩
 have B1 : Hid (Below w.heap.size w w1) := Below.and B0.out hb1
 clear hb1 B0
 go_wp2
 go_ret
 exact ⟨rfl, B1.out⟩

theorem specTreeOk_any (n : Nat) (x : TV) (T : Tr) (w : World) (ht : TreeAt n w x T) (hsz : sizeT n T ≤ 1099511627776) :
  Calls Tryd.prog 53 #[x.val] w fun e w' => e = .returned (.bool (okT T)) ∧ Below w.heap.size w w' := by
 have TT : Hid (TreeAt n w x T) := ht
 clear ht
 obtain ⟨lf, p, c, k, b⟩ := x
 have B0 : Hid _ := bel_box w #[.bool lf, p, c, k, b]
 have HC := specTreeDepth_any n ⟨lf, p, c, k, b⟩ T _ (TT.out.below B0.out) hsz
 have HC' : Hid _ := HC
 clear HC
 show Calls Tryd.prog 53 #[.agg #[.bool lf, p, c, k, b]] w _
 unfold okT
 generalize depthT T = d at *
 go_enter Tryd.func53, Tryd.ntmps53
 go_wp2_with fail
 refine Calls.mono HC'.out ?_
 rintro e w1 ⟨rfl, hb1⟩
 have B1 : Hid (Below w.heap.size w w1) := Below.and B0.out hb1
 clear hb1 B0
 go_wp2
 go_ret
 exact ⟨rfl, B1.out⟩

def CountIs (g : FuncId) (n : Nat) : Prop := ∀ (x : TV) (T : Tr) (w : World), TreeAt n w x T → sizeT n T ≤ 1099511627776 →
  Calls Tryd.prog g #[x.val] w fun e w' => e = .returned (.tuple #[.int .i64 (pairsF n T : Nat), .int .i64 (msgsF n T : Nat)]) ∧ Below w.heap.size w w'
end
section
open Go.RowKit

def prefK (l : List Int) (k : Int) : Nat := (l.takeWhile fun c => decide (c ≤ k)).length
theorem prefK_at {l : List Int} {k : Int} {n : Nat} (hn : n ≤ l.length) (h : ∀ i, i < n → iAt l i ≤ k) (h2 : n < l.length → ¬ iAt l n ≤ k) : prefK l k = n := by
 induction l generalizing n with
 | nil => simp at hn; subst hn; rfl
 | cons a l ih =>
  cases n with
  | zero =>
   have := h2 (by simp)
   simp only [iAt, List.getD_cons_zero] at this
   simp [prefK, this]
  | succ n =>
   have ha := h 0 (by omega)
   simp only [iAt, List.getD_cons_zero] at ha
   have := ih (n := n) (by simpa using hn) (fun i hi => by simpa [iAt] using h (i + 1) (by omega)) (fun hl => by simpa [iAt] using h2 (by simpa using hl))
   simp only [prefK] at this ⊢
   rw [List.takeWhile_cons_of_pos (by simpa using ha), List.length_cons, this]
theorem prefK_le (l : List Int) (k : Int) : prefK l k ≤ l.length := by
 unfold prefK
 exact (List.takeWhile_sublist _).length_le

def kidOfT (T : Tr) (k : Int) : Int := if T.leaf = true ∨ okT T = false then -1 else (prefK T.cuts k : Nat)
end
section
open Go.RowKit

def TreeOwn : Nat → World → Nat → TV → Tr → Prop
 | 0, _, _, _, _ => False
 | n + 1, w, base, x, T => x.lf = T.leaf ∧ w.ownsRow base 52 2 x.p T.pairs.length (flatP T.pairs) ∧ w.ownsRow base 3 1 x.c T.cuts.length (flatI T.cuts) ∧ w.ownsRow base 54 3 x.b T.buf.length (flatM T.buf) ∧
   ∃ xs : List TV, xs.length = T.kids.length ∧ w.ownsRow base 29 5 x.k xs.length (flatT xs) ∧ ∀ i, i < xs.length → TreeOwn n w base (tvAt xs i) (kidT T i)

def TreesOwn (n : Nat) (w : World) (base : Nat) (v : Value) (ts : List Tr) : Prop :=
 ∃ xs : List TV, xs.length = ts.length ∧ w.ownsRow base 29 5 v xs.length (flatT xs) ∧ ∀ i, i < xs.length → TreeOwn n w base (tvAt xs i) (ts.getD i noTr)
theorem Tryd.info3 : (Tryd.prog.info? 3).map (fun i => (i.zero, i.size, i.bytes)) = some (some (.int .i64 0), 1, 8) := by kernel_rfl
theorem Tryd.info29 : (Tryd.prog.info? 29).map (fun i => (i.zero, i.size, i.bytes)) = some (some (.agg #[.bool false, .slice none 0 0, .slice none 0 0, .slice none 0 0, .slice none 0 0]), 5, 104) := by kernel_rfl

def filledI (l : List Int) (k : Nat) : List Int := l.take k ++ List.replicate (l.length - k) 0
end
section
open Go.RowKit

theorem TreeAt.shape : ∀ {n : Nat} {w : World} {x : TV} {T : Tr}, TreeAt n w x T → ∃ (a1 a2 a3 a4 : Option Addr) (c1 c2 c3 c4 : Nat), x = ⟨T.leaf, .slice a1 T.pairs.length c1, .slice a2 T.cuts.length c2, .slice a3 T.kids.length c3, .slice a4 T.buf.length c4⟩
 | 0, _, _, _, h => h.elim
 | _ + 1, _, ⟨lf, p, c, k, b⟩, T, ⟨h1, h2, h3, h4, xs, h5, h6, h7⟩ => by
  simp only at h1 h2 h3 h4 h6
  obtain ⟨a1, c1, rfl, _⟩ := h2.len
  obtain ⟨a2, c2, rfl, _⟩ := h3.len
  obtain ⟨a4, c4, rfl, _⟩ := h4.len
  obtain ⟨a3, c3, rfl, _⟩ := h6.len
  subst h1
  exact ⟨a1, a2, a3, a4, c1, c2, c3, c4, by rw [h5]⟩
end
section
open Go.RowKit

def BoxAt (t : TypeId) (u : World) (B : Nat) (A : Array Value) : Prop := u.heap[B]? = some (.cells A t (0, 0))
theorem BoxAt.cells {t : TypeId} {u : World} {B : Nat} {A : Array Value} (h : BoxAt t u B A) : ∀ j, u.cell? ⟨B, j, none⟩ = A[j]? := fun j => cell_of_row u B j A t (0, 0) h
theorem BoxAt.start (t : TypeId) (w : World) (A : Array Value) : BoxAt t (w.alloc (.cells A t)) w.heap.size A := heap_alloc_new w _
theorem bel_new (w : World) (o : Obj) : Below w.heap.size w (w.alloc o) := (Below.refl _ _).alloc (Nat.le_refl _) _

def kindN (T : Tr) : Int := if T.leaf = true then (if T.cuts.length = 0 ∧ T.kids.length = 0 ∧ T.buf.length = 0 then 1 else 0) else (if T.pairs.length = 0 then 2 else 0)
theorem kindN_leaf {T : Tr} (h : T.leaf = true) (hb : T.cuts.length = 0 ∧ T.kids.length = 0 ∧ T.buf.length = 0) : kindN T = 1 := by rw [kindN, if_pos h, if_pos hb]
theorem kindN_leaf_no {T : Tr} (h : T.leaf = true) (hb : ¬ (T.cuts.length = 0 ∧ T.kids.length = 0 ∧ T.buf.length = 0)) : kindN T = 0 := by rw [kindN, if_pos h, if_neg hb]
theorem kindN_fork {T : Tr} (h : T.leaf = false) (hb : T.pairs.length = 0) : kindN T = 2 := by rw [kindN, if_neg (by rw [h]; decide), if_pos hb]
theorem kindN_fork_no {T : Tr} (h : T.leaf = false) (hb : ¬ T.pairs.length = 0) : kindN T = 0 := by rw [kindN, if_neg (by rw [h]; decide), if_neg hb]

theorem kindOf_any (n : Nat) (x : TV) (T : Tr) (w : World) (ht : TreeAt n w x T) :
  Calls Tryd.prog 31 #[x.val] w fun e w' => e = .returned (.int .i64 (kindN T)) ∧ Below w.heap.size w w' := by
 obtain ⟨a1, a2, a3, a4, q1, q2, q3, q4, rfl⟩ := ht.shape
 show Calls Tryd.prog 31 #[.agg #[.bool T.leaf, .slice a1 T.pairs.length q1, .slice a2 T.cuts.length q2, .slice a3 T.kids.length q3, .slice a4 T.buf.length q4]] w _
 have K1 : Hid (T.leaf = true → (T.cuts.length = 0 ∧ T.kids.length = 0 ∧ T.buf.length = 0) → kindN T = 1) := kindN_leaf
 have K2 : Hid (T.leaf = true → ¬ (T.cuts.length = 0 ∧ T.kids.length = 0 ∧ T.buf.length = 0) → kindN T = 0) := kindN_leaf_no
 have K3 : Hid (T.leaf = false → T.pairs.length = 0 → kindN T = 2) := kindN_fork
 have K4 : Hid (T.leaf = false → ¬ T.pairs.length = 0 → kindN T = 0) := kindN_fork_no
 clear ht
 generalize kindN T = R at *
 generalize T.pairs.length = n1 at *
 generalize T.cuts.length = n2 at *
 generalize T.kids.length = n3 at *
 generalize T.buf.length = n4 at *
 cases hlf : T.leaf
 ·cases h1 : ((n1 : Int) == 0)
  ·have E := K4.out hlf (by rw [beq_eq_false_iff_ne] at h1; omega)
   subst E
   cases h2 : ((n2 : Int) == 0) <;> cases h3 : ((n3 : Int) == 0) <;> cases h4 : ((n4 : Int) == 0)
   all_goals
    go_enter Tryd.func31, Tryd.ntmps31
    go_wp2
    go_ret
    exact ⟨rfl, bel_new _ _⟩
  ·have E := K3.out hlf (by rw [beq_iff_eq] at h1; omega)
   subst E
   cases h2 : ((n2 : Int) == 0) <;> cases h3 : ((n3 : Int) == 0) <;> cases h4 : ((n4 : Int) == 0)
   all_goals
    go_enter Tryd.func31, Tryd.ntmps31
    go_wp2
    go_ret
    exact ⟨rfl, bel_new _ _⟩
 ·cases h2 : ((n2 : Int) == 0)
  ·have E := K2.out hlf (by rw [beq_eq_false_iff_ne] at h2; omega)
   subst E
   cases h3 : ((n3 : Int) == 0) <;> cases h4 : ((n4 : Int) == 0)
   all_goals
    go_enter Tryd.func31, Tryd.ntmps31
    go_wp2
    go_ret
    exact ⟨rfl, bel_new _ _⟩
  ·cases h3 : ((n3 : Int) == 0)
   ·have E := K2.out hlf (by rw [beq_eq_false_iff_ne] at h3; omega)
    subst E
    cases h4 : ((n4 : Int) == 0)
    all_goals
     go_enter Tryd.func31, Tryd.ntmps31
     go_wp2
     go_ret
     exact ⟨rfl, bel_new _ _⟩
   ·cases h4 : ((n4 : Int) == 0)
    ·have E := K2.out hlf (by rw [beq_eq_false_iff_ne] at h4; omega)
     subst E
     go_enter Tryd.func31, Tryd.ntmps31
     go_wp2
     go_ret
     exact ⟨rfl, bel_new _ _⟩
    ·have E := K1.out hlf (by rw [beq_iff_eq] at h2 h3 h4; omega)
     subst E
     go_enter Tryd.func31, Tryd.ntmps31
     go_wp2
     go_ret
     exact ⟨rfl, bel_new _ _⟩

abbrev placeV (kd lo hi ab : Int) : Value := .agg #[.int .i64 kd, .int .i64 lo, .int .i64 hi, .int .i64 ab]
abbrev placedV (kd lo hi ab : Int) (x : TV) : Value := .agg #[.int .i64 kd, .int .i64 lo, .int .i64 hi, .int .i64 ab, .bool x.lf, x.p, x.c, x.k, x.b]
end
section
open Go.RowKit
end
section
open Go.RowKit

theorem wp_gen {P : Program} {code : Code} {Q : Exit → Act → World → Prop} {a : Act} {w0 : World} (S : World → Prop) (h0 : S w0) (h : ∀ W, S W → Code.wp P code Q a W) : Code.wp P code Q a w0 := h _ h0
end
section
open Go.RowKit

def pairsOkB (T : Tr) (lo hi : Int) : Bool := decide (T.pairs.length ≤ 4) && (mapOkB T.pairs && pairsInB T lo hi)
def cutsOk2B (T : Tr) (lo hi : Int) : Bool := decide (2 ≤ T.kids.length ∧ T.kids.length ≤ 4) && (decide (T.cuts.length + 1 = T.kids.length) && cutsOkB T lo hi)
end
section
open Go.RowKit

def bufOk2B (T : Tr) (lo hi : Int) : Bool := decide (T.buf.length ≤ 6) && bufOkB T lo hi
end
end Go.Proofs.YtbmcojelgbkafaaDoor
