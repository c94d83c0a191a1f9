/-
  Contracts of the model's chapter 2: l2Leaf.
  The contract of the model's l2Depth.
  Contracts of the model's chapter 2: TreeDepth, TreeOk, l2Count, TreeCount, l2Kid, KidOf.
-/
import Derived.Test.YtekcnibohikmdaaOfWrites4
import Derived.Test.YtekcnibohikmdaaOfWrites2
namespace Go.Proofs.Ytekcnibohikmdaa
set_option maxRecDepth 100000
set_option maxHeartbeats 8000000
section
open Go.RowKit

def OneAt (u : World) (B : Nat) (A : Array Value) : Prop := u.heap[B]? = some (.cells A 54 (0, 0))
theorem OneAt.step {u w' : World} {B : Nat} {A : Array Value} (h : OneAt u B A) (hb : Below u.heap.size u w') : OneAt w' B A :=
 (hb.block _ (Array.getElem?_eq_some_iff.1 h).1).trans h
theorem OneAt.cells {u : World} {B : Nat} {A : Array Value} (h : OneAt u B A) : ∀ j, u.cell? ⟨B, j, none⟩ = A[j]? := fun j => cell_of_row u B j A 54 (0, 0) h
theorem OneAt.start (w : World) (A : Array Value) : OneAt (w.alloc (.cells A 54)) w.heap.size A := heap_alloc_new w _
theorem bel_box (w : World) (A : Array Value) : Below w.heap.size w (w.alloc (.cells A 54)) := (Below.refl _ _).alloc (Nat.le_refl _) _

theorem TreesAt.len {n : Nat} {w : World} {v : Value} {ts : List Tr} (h : TreesAt n w v ts) : ∃ (a : Option Addr) (cap : Nat), v = .slice a ts.length cap ∧ ts.length ≤ maxLen := by
 obtain ⟨xs, hl, hr, _⟩ := h
 obtain ⟨a, q, e, m⟩ := hr.len
 rw [hl] at e m
 exact ⟨a, q, e, m⟩

theorem leaf_no1 {T : Tr} {lo hi : Int} (h : mapOkB T.pairs = false) : leafOkB T lo hi = false := by simp [leafOkB, h]
theorem leaf_no2 {T : Tr} {lo hi : Int} (h : ¬ T.pairs.length ≤ 4) : leafOkB T lo hi = false := by
 rw [leafOkB, decide_eq_false h]; simp
theorem leaf_no3 {T : Tr} {lo hi : Int} (h : ¬ T.cuts.length + T.kids.length + T.buf.length = 0) : leafOkB T lo hi = false := by
 rw [leafOkB, decide_eq_false h]; simp
theorem leaf_no4 {T : Tr} {lo hi : Int} {i : Nat} (hi' : i < T.pairs.length) (h : pairAt T lo hi i = false) : leafOkB T lo hi = false := by
 rw [leafOkB, pairsInB, allB_false hi' h]; simp
theorem leaf_yes {T : Tr} {lo hi : Int} (h1 : mapOkB T.pairs = true) (h2 : T.pairs.length ≤ 4) (h3 : T.cuts.length + T.kids.length + T.buf.length = 0) (h4 : ∀ i, i < T.pairs.length → pairAt T lo hi i = true) : leafOkB T lo hi = true := by
 rw [leafOkB, h1, decide_eq_true h2, decide_eq_true h3, pairsInB, allB_true h4]; rfl

def leafD (T : Tr) (lo hi : Int) : Int := if leafOkB T lo hi = true then 1 else 0
theorem leafD_no {T : Tr} {lo hi : Int} (h : leafOkB T lo hi = false) : leafD T lo hi = 0 := by simp [leafD, h]
theorem leafD_yes {T : Tr} {lo hi : Int} (h : leafOkB T lo hi = true) : leafD T lo hi = 1 := by simp [leafD, h]

theorem l2Leaf_any (n : Nat) (x : TV) (T : Tr) (lo hi : Int) (w : World) (ht : TreeAt n w x T) (hsz : sizeT n T ≤ 1099511627776) (hh0 : 0 ≤ hi) (hh1 : hi ≤ 1000) :
  Calls Try.prog 53 #[x.val, .int .i64 lo, .int .i64 hi] w fun e w' => e = .returned (.int .i64 (leafD T lo hi)) ∧ Below w.heap.size w w' := by
 cases n with
 | zero => exact ht.elim
 | succ n =>
 obtain ⟨lf, p, c, k, b⟩ := x
 obtain ⟨hlf, hp, hc, hb, hk⟩ := ht.parts
 simp only at hlf hp hc hb hk
 obtain ⟨a2, q2, rfl, m2⟩ := hc.len
 obtain ⟨a3, q3, rfl, m3⟩ := hk.len
 obtain ⟨a4, q4, rfl, m4⟩ := hb.len
 obtain ⟨a, bb, off, cap, rfl, hcap, hmax, ha, ck, cv⟩ := hp.pairs
 have R1 : Hid (Row w (.slice a T.pairs.length cap) T.pairs.length (flatP T.pairs)) := hp
 unfold maxLen at hmax
 clear m2 m3 m4
 have hS : sizeT (n + 1) T = T.pairs.length + (T.cuts.length + (T.kids.length + (T.kids.map (sizeT n)).sum + T.buf.length)) := rfl
 have m2 : T.cuts.length ≤ 1099511627776 := by omega
 have m3 : T.kids.length ≤ 1099511627776 := by omega
 have m4 : T.buf.length ≤ 1099511627776 := by omega
 clear hS hsz
 clear ht hp hc hb hk hlf
 show Calls Try.prog 53 #[.agg #[.bool lf, .slice a T.pairs.length cap, .slice a2 T.cuts.length q2, .slice a3 T.kids.length q3, .slice a4 T.buf.length q4], .int .i64 lo, .int .i64 hi] w _
 have B0 : Hid _ := bel_box w #[.bool lf, .slice a T.pairs.length cap, .slice a2 T.cuts.length q2, .slice a3 T.kids.length q3, .slice a4 T.buf.length q4]
 have S0 : Hid (OneAt _ w.heap.size _) := OneAt.start w #[.bool lf, .slice a T.pairs.length cap, .slice a2 T.cuts.length q2, .slice a3 T.kids.length q3, .slice a4 T.buf.length q4]
 cases hmo : mapOkB T.pairs
 ·have E : Hid (leafOkB T lo hi = false) := leaf_no1 hmo
  go_enter Try.func53, Try.ntmps53
  go_wp2_with fail
  refine (specMapOk_any _ _ _ (R1.out.below B0.out)).mono ?_
  rintro e w1 ⟨he, hb1⟩
  rw [hmo] at he
  subst he
  have B1 : Hid (Below w.heap.size w w1) := Below.and B0.out hb1
  clear B0 S0 hb1
  go_wp2
  go_ret
  exact ⟨ret_int (leafD_no E.out).symm, B1.out⟩
 ·by_cases h4 : T.pairs.length ≤ 4
  ·by_cases h0 : T.cuts.length + T.kids.length + T.buf.length = 0
   ·have z2 : T.cuts.length = 0 := by omega
    have z3 : T.kids.length = 0 := by omega
    have z4 : T.buf.length = 0 := by omega
    have YES : Hid ((∀ i, i < T.pairs.length → pairAt T lo hi i = true) → leafOkB T lo hi = true) := fun h => leaf_yes hmo h4 (by omega) h
    rw [z2, z3, z4] at B0 S0 ⊢
    clear z2 z3 z4 h0
    go_enter Try.func53, Try.ntmps53
    go_wp2_with fail
    refine (specMapOk_any _ _ _ (R1.out.below B0.out)).mono ?_
    rintro e w1 ⟨he, hb1⟩
    rw [hmo] at he
    subst he
    have B1 : Hid (Below w.heap.size w w1) := Below.and B0.out hb1
    have S1 : Hid (OneAt w1 w.heap.size #[.bool lf, .slice a T.pairs.length cap, .slice a2 0 q2, .slice a3 0 q3, .slice a4 0 q4]) := S0.out.step hb1
    have k0 := S1.out.cells
    clear B0 S0 hb1
    go_wp2
    go_loopw [7] (fun i wr => ∃ k : Nat, k ≤ T.pairs.length ∧ i = .int .i64 k ∧ wr = w1 ∧ Hid (∀ i, i < k → pairAt T lo hi i = true))
     (fun i _ => T.pairs.length - (intOf i).toNat)
    case atStart => exact ⟨0, Nat.zero_le _, rfl, rfl, fun i hi => absurd hi (Nat.not_lt_zero _)⟩
    case round =>
     obtain ⟨k, hkl, rfl, rfl, ALL⟩ := hrel
     by_cases hlt : k < T.pairs.length
     ·have hal := ha (by omega)
      subst hal
      have d0 := (B1.out.cell (by exact cell_lt (ck k hlt))).trans (ck k hlt)
      clear ck cv ha
      cases hq : inB (kOf T.pairs k) lo (hi - 1)
      ·have NO : Hid (leafOkB T lo hi = false) := leaf_no4 hlt hq
       go_wp2_with (go_at_call 16; refine (l1In_any _ _ _ _).mono ?_; rintro e w' ⟨rfl, rfl⟩)
       go_ret
       exact ⟨ret_int (leafD_no NO.out).symm, B1.out⟩
      ·have YS : Hid (pairAt T lo hi k = true) := hq
       go_wp2_with (go_at_call 16; refine (l1In_any _ _ _ _).mono ?_; rintro e w' ⟨rfl, rfl⟩)
       go_roundw
       case rel => exact ⟨k + 1, by omega, by go_num, trivial, fun i hi => if h : i < k then ALL.out i h else by rw [show i = k by omega]; exact YS.out⟩
       case measure => simp [intOf]; omega
     ·clear ck cv ha
      go_wp2
      go_ret
      exact ⟨ret_int (leafD_yes (YES.out (fun i hi => ALL.out i (by omega)))).symm, B1.out⟩
   ·have E : Hid (leafOkB T lo hi = false) := leaf_no3 (by omega)
    have hpos : (0 : Int) < (T.cuts.length : Int) + (T.kids.length : Int) + (T.buf.length : Int) := by omega
    clear h0
    go_enter Try.func53, Try.ntmps53
    go_wp2_with fail
    refine (specMapOk_any _ _ _ (R1.out.below B0.out)).mono ?_
    rintro e w1 ⟨he, hb1⟩
    rw [hmo] at he
    subst he
    have B1 : Hid (Below w.heap.size w w1) := Below.and B0.out hb1
    have S1 : Hid (OneAt w1 w.heap.size #[.bool lf, .slice a T.pairs.length cap, .slice a2 T.cuts.length q2, .slice a3 T.kids.length q3, .slice a4 T.buf.length q4]) := S0.out.step hb1
    have k0 := S1.out.cells
    clear B0 S0 hb1
    go_wp2
    go_ret
    exact ⟨ret_int (leafD_no E.out).symm, B1.out⟩
  ·have E : Hid (leafOkB T lo hi = false) := leaf_no2 h4
   have h4' : (4 : Int) < (T.pairs.length : Int) := by omega
   clear h4
   go_enter Try.func53, Try.ntmps53
   go_wp2_with fail
   refine (specMapOk_any _ _ _ (R1.out.below B0.out)).mono ?_
   rintro e w1 ⟨he, hb1⟩
   rw [hmo] at he
   subst he
   have B1 : Hid (Below w.heap.size w w1) := Below.and B0.out hb1
   have S1 : Hid (OneAt w1 w.heap.size #[.bool lf, .slice a T.pairs.length cap, .slice a2 T.cuts.length q2, .slice a3 T.kids.length q3, .slice a4 T.buf.length q4]) := S0.out.step hb1
   have k0 := S1.out.cells
   clear B0 S0 hb1
   go_wp2
   go_ret
   exact ⟨ret_int (leafD_no E.out).symm, B1.out⟩
end
section
open Go.RowKit

theorem leafD_depth {m : Nat} {T : Tr} {lo hi : Int} (h : T.leaf = true) : leafD T lo hi = (depthF (m + 1) T lo hi : Int) := by
 rw [depthF_leaf h, leafD]; split <;> rfl
theorem fork_no_shape {T : Tr} {lo hi : Int} (h : shapeB T = false) : forkOkB T lo hi = false := by simp [forkOkB, h]
theorem fork_no_buf {T : Tr} {lo hi : Int} {i : Nat} (hi' : i < T.buf.length) (h : msgAt T lo hi i = false) : forkOkB T lo hi = false := by rw [forkOkB, bufOkB, allB_false hi' h]; simp
theorem fork_no_cut {T : Tr} {lo hi : Int} {i : Nat} (hi' : i < T.cuts.length) (h : cutAt T lo hi i = false) : forkOkB T lo hi = false := by rw [forkOkB, cutsOkB, allB_false hi' h]; simp
theorem fork_yes {T : Tr} {lo hi : Int} (h1 : shapeB T = true) (h2 : ∀ i, i < T.buf.length → msgAt T lo hi i = true) (h3 : ∀ i, i < T.cuts.length → cutAt T lo hi i = true) : forkOkB T lo hi = true := by
 rw [forkOkB, h1, bufOkB, allB_true h2, cutsOkB, allB_true h3]; rfl
theorem shape_no1 {T : Tr} (h : ¬ T.pairs.length = 0) : shapeB T = false := by rw [shapeB, decide_eq_false h]; rfl
theorem shape_no2 {T : Tr} (h : inB (T.kids.length : Int) 2 4 = false) : shapeB T = false := by
 have : ¬ (2 ≤ T.kids.length ∧ T.kids.length ≤ 4) := by
  intro hc
  rw [inB_true (by omega) (by omega)] at h
  cases h
 rw [shapeB, decide_eq_false this]; simp
theorem shape_no3 {T : Tr} (h : ¬ T.cuts.length + 1 = T.kids.length) : shapeB T = false := by rw [shapeB, decide_eq_false h]; simp
theorem shape_no4 {T : Tr} (h : ¬ T.buf.length ≤ 6) : shapeB T = false := by rw [shapeB, decide_eq_false h]; simp
theorem shape_yes {T : Tr} (h1 : T.pairs.length = 0) (h2 : inB (T.kids.length : Int) 2 4 = true) (h3 : T.cuts.length + 1 = T.kids.length) (h4 : T.buf.length ≤ 6) : shapeB T = true := by
 have h2' := inB_iff.1 h2
 rw [shapeB, decide_eq_true h1, decide_eq_true (p := 2 ≤ T.kids.length ∧ T.kids.length ≤ 4) (by omega), decide_eq_true h3, decide_eq_true h4]; rfl

def L2Depth (m : Nat) : Prop := ∀ (n : Nat) (x : TV) (T : Tr) (lo hi : Int) (w : World), TreeAt n w x T → sizeT n T ≤ 1099511627776 → 0 ≤ lo → lo ≤ 1000 → 0 ≤ hi → hi ≤ 1000 →
  Calls Try.prog 44 #[x.val, .int .i64 lo, .int .i64 hi, .int .i64 m] w fun e w' => e = .returned (.int .i64 (depthF m T lo hi : Nat)) ∧ Below w.heap.size w w'

theorem l2Depth_zero : L2Depth 0 := by
 intro n x T lo hi w ht _ _ _ _ _
 have E : depthF 0 T lo hi = 0 := rfl
 rw [E]
 show Calls Try.prog 44 #[.agg #[.bool x.lf, x.p, x.c, x.k, x.b], .int .i64 lo, .int .i64 hi, .int .i64 0] w _
 go_enter Try.func44, Try.ntmps44
 go_wp2
 go_ret
 exact ⟨rfl, (Below.refl _ _).alloc (Nat.le_refl _) _⟩

theorem l2Depth_leaf {m : Nat} (hm : m ≤ 1000) (n : Nat) (x : TV) (T : Tr) (lo hi : Int) (w : World) (ht : TreeAt n w x T) (hlf : T.leaf = true) (hsz : sizeT n T ≤ 1099511627776) (hh0 : 0 ≤ hi) (hh1 : hi ≤ 1000) :
  Calls Try.prog 44 #[x.val, .int .i64 lo, .int .i64 hi, .int .i64 ((m + 1 : Nat) : Int)] w fun e w' => e = .returned (.int .i64 (depthF (m + 1) T lo hi : Nat)) ∧ Below w.heap.size w w' := by
 have E : Hid (leafD T lo hi = (depthF (m + 1) T lo hi : Int)) := leafD_depth hlf
 have hlx : x.lf = true := by
  cases n with
  | zero => exact ht.elim
  | succ n => exact ht.parts.1.trans hlf
 have TT : Hid (TreeAt n w x T) := ht
 generalize depthF (m + 1) T lo hi = d at *
 have hne : (((m + 1 : Nat) : Int) == 0) = false := by rw [beq_eq_false_iff_ne]; omega
 obtain ⟨lf, p, c, k, b⟩ := x
 simp only at hlx
 subst hlx
 have B0 : Hid _ := bel_box w #[.bool true, p, c, k, b]
 clear ht
 show Calls Try.prog 44 #[.agg #[.bool true, p, c, k, b], .int .i64 lo, .int .i64 hi, .int .i64 ((m + 1 : Nat) : Int)] w _
 go_enter Try.func44, Try.ntmps44
 go_wp2_with fail
 refine (l2Leaf_any n ⟨true, p, c, k, b⟩ T lo hi _ (TT.out.below B0.out) hsz hh0 hh1).mono ?_
 rintro e w1 ⟨he, hb1⟩
 rw [E.out] at he
 subst he
 have B1 : Hid (Below w.heap.size w w1) := Below.and B0.out hb1
 clear hb1 B0
 go_wp2
 go_ret
 exact ⟨rfl, B1.out⟩

theorem fromT_succ {T : Tr} {lo hi : Int} {k : Nat} (h : k < T.cuts.length) : toT T hi k = fromT T lo (k + 1) := by
 simp [toT, fromT, h]

theorem l2Depth_fork {m : Nat} (hm : m ≤ 1000) (H : L2Depth m) (n : Nat) (x : TV) (T : Tr) (lo hi : Int) (w : World) (ht : TreeAt n w x T) (hlf : T.leaf = false) (hsz : sizeT n T ≤ 1099511627776) (hl0 : 0 ≤ lo) (hl1 : lo ≤ 1000) (hh0 : 0 ≤ hi) (hh1 : hi ≤ 1000) :
  Calls Try.prog 44 #[x.val, .int .i64 lo, .int .i64 hi, .int .i64 ((m + 1 : Nat) : Int)] w fun e w' => e = .returned (.int .i64 (depthF (m + 1) T lo hi : Nat)) ∧ Below w.heap.size w w' := by
 cases n with
 | zero => exact ht.elim
 | succ n =>
 obtain ⟨lf, p, c, k, b⟩ := x
 obtain ⟨hlx, hp, hc, hb, hk⟩ := ht.parts
 simp only at hlx hp hc hb hk
 rw [hlf] at hlx
 subst hlx
 have NO : Hid (forkOkB T lo hi = false → depthF (m + 1) T lo hi = 0) := depthF_no hlf
 have YES : Hid (forkOkB T lo hi = true → depthF (m + 1) T lo hi = kidsD (kidF m T lo hi) T.kids.length) := depthF_fork hlf
 generalize depthF (m + 1) T lo hi = D at *
 obtain ⟨a1, q1, rfl, _⟩ := hp.len
 obtain ⟨a2, b2, off2, q2, rfl, hcap2, hmax2, ha2, cc⟩ := hc.ints
 obtain ⟨xs, hxl, hrow, hkt⟩ := hk
 obtain ⟨a3, b3, off3, q3, he3, hcap3, hmax3, ha3, c0, c1, c2, c3, c4⟩ := hrow.trees
 rw [hxl] at he3 hcap3 ha3 c0 c1 c2 c3 c4 hkt
 subst he3
 obtain ⟨a4, b4, off4, q4, rfl, hcap4, hmax4, ha4, go, gk, gv⟩ := hb.msgs
 have hS : sizeT (n + 1) T = T.pairs.length + (T.cuts.length + (T.kids.length + (T.kids.map (sizeT n)).sum + T.buf.length)) := rfl
 have KSZ : Hid (∀ i, i < T.kids.length → sizeT n (kidT T i) ≤ 1099511627776) := fun i hi => by have := sizeT_kid (n := n) hi; omega
 have m1 : T.pairs.length ≤ 1099511627776 := by omega
 have m2 : T.cuts.length ≤ 1099511627776 := by omega
 have m3 : T.kids.length ≤ 1099511627776 := by omega
 have m4 : T.buf.length ≤ 1099511627776 := by omega
 unfold maxLen at hmax2 hmax3 hmax4
 clear hS hsz hp hc hb hrow ht
 have KT := hid (hkt)
 have HH : Hid (L2Depth m) := H
 clear H hkt hxl hlf
 generalize g1 : T.pairs.length = n1 at *
 generalize g2 : T.cuts.length = n2 at *
 generalize g3 : T.kids.length = n3 at *
 generalize g4 : T.buf.length = n4 at *
 generalize gM : ((m + 1 : Nat) : Int) = M
 have G1 := hid (g1)
 have G2 := hid (g2)
 have G3 := hid (g3)
 have G4 := hid (g4)
 have hne : (M == 0) = false := by rw [beq_eq_false_iff_ne]; omega
 have hM0 : 0 < M := by omega
 have hM1 : M ≤ 1001 := by omega
 have MM : Hid (M - 1 = (m : Int)) := by show _ = _; omega
 clear g1 g2 g3 g4 gM
 show Calls Try.prog 44 #[.agg #[.bool false, .slice a1 n1 q1, .slice a2 n2 q2, .slice a3 n3 q3, .slice a4 n4 q4], .int .i64 lo, .int .i64 hi, .int .i64 M] w _
 have B0 : Hid _ := bel_box w #[.bool false, .slice a1 n1 q1, .slice a2 n2 q2, .slice a3 n3 q3, .slice a4 n4 q4]
 have S0 := hid (OneAt.start w #[.bool false, .slice a1 n1 q1, .slice a2 n2 q2, .slice a3 n3 q3, .slice a4 n4 q4])
 by_cases hp0 : n1 = 0
 case neg =>
  have E := NO.out (fork_no_shape (shape_no1 (by rw [G1.out]; exact hp0)))
  have hp1 : (0 : Int) < (n1 : Int) := by omega
  subst E
  clear NO YES KT KSZ ha2 cc ha3 c0 c1 c2 c3 c4 ha4 go gk gv S0 hp0
  go_enter Try.func44, Try.ntmps44
  go_wp2
  go_ret
  exact ⟨ret_int (by simp), B0.out⟩
 case pos =>
 subst hp0
 cases hin : inB (n3 : Int) 2 4
 ·have E := NO.out (fork_no_shape (shape_no2 (by rw [G3.out]; exact hin)))
  subst E
  clear NO YES KT KSZ ha2 cc ha3 c0 c1 c2 c3 c4 ha4 go gk gv S0
  go_enter Try.func44, Try.ntmps44
  go_wp2_with (go_at_call 16; refine (l1In_any _ _ _ _).mono ?_; rintro e w' ⟨rfl, rfl⟩)
  go_ret
  exact ⟨ret_int (by simp), B0.out⟩
 by_cases hcl : n2 + 1 = n3
 case neg =>
  have E := NO.out (fork_no_shape (shape_no3 (by rw [G2.out, G3.out]; exact hcl)))
  have hcl1 : ((n2 : Int) != (n3 : Int) - 1) = true := by rw [bne_iff_ne]; omega
  subst E
  clear NO YES KT KSZ ha2 cc ha3 c0 c1 c2 c3 c4 ha4 go gk gv S0 hcl
  go_enter Try.func44, Try.ntmps44
  go_wp2_with (go_at_call 16; refine (l1In_any _ _ _ _).mono ?_; rintro e w' ⟨rfl, rfl⟩)
  go_ret
  exact ⟨ret_int (by simp), B0.out⟩
 case pos =>
 have hcl1 : ((n2 : Int) != (n3 : Int) - 1) = false := by rw [bne_eq_false_iff_eq]; omega
 by_cases hb6 : n4 ≤ 6
 case neg =>
  have E := NO.out (fork_no_shape (shape_no4 (by rw [G4.out]; exact hb6)))
  have hb61 : (6 : Int) < (n4 : Int) := by omega
  subst E
  clear NO YES KT KSZ ha2 cc ha3 c0 c1 c2 c3 c4 ha4 go gk gv S0 hcl hb6
  go_enter Try.func44, Try.ntmps44
  go_wp2_with (go_at_call 16; refine (l1In_any _ _ _ _).mono ?_; rintro e w' ⟨rfl, rfl⟩)
  go_ret
  exact ⟨ret_int (by simp), B0.out⟩
 case pos =>
 have SH := hid (shape_yes G1.out (by rw [G3.out]; exact hin) (by rw [G2.out, G3.out]; exact hcl) (by rw [G4.out]; exact hb6))
 have hb61 : ¬ (6 : Int) < (n4 : Int) := by omega
 have CL := hid (hcl)
 have C0 := hid (c0)
 have C1 := hid (c1)
 have C2 := hid (c2)
 have C3 := hid (c3)
 have C4 := hid (c4)
 have CC := hid (cc)
 have GO := hid (go)
 have GK := hid (gk)
 have GV := hid (gv)
 have A2 := hid (ha2)
 have A3 := hid (ha3)
 have A4 := hid (ha4)
 clear hcl c0 c1 c2 c3 c4 cc go gk gv ha2 ha3 ha4
 go_enter Try.func44, Try.ntmps44
 go_wp2_with (go_at_call 16; refine (l1In_any _ _ _ _).mono ?_; rintro e w' ⟨rfl, rfl⟩)
 go_loopw [10] (fun i wr => ∃ k : Nat, k ≤ n4 ∧ i = .int .i64 k ∧ Hid (∀ i, i < k → msgAt T lo hi i = true) ∧ Hid (Below w.heap.size w wr) ∧ Hid (OneAt wr w.heap.size #[.bool false, .slice a1 0 q1, .slice a2 n2 q2, .slice a3 n3 q3, .slice a4 n4 q4]))
  (fun i _ => n4 - (intOf i).toNat)
 case atStart => exact ⟨0, Nat.zero_le _, rfl, fun i hi => absurd hi (Nat.not_lt_zero _), B0.out, S0.out⟩
 case round =>
  obtain ⟨k, hkl, rfl, ALL, BB, SS⟩ := hrel
  clear B0 S0
  have k0 := SS.out.cells
  by_cases hlt : k < n4
  ·have hal := A4.out (by omega)
   subst hal
   have e0 := (BB.out.cell (by exact cell_lt (GO.out k hlt))).trans (GO.out k hlt)
   have e1 := (BB.out.cell (by exact cell_lt (GK.out k hlt))).trans (GK.out k hlt)
   have e2 := (BB.out.cell (by exact cell_lt (GV.out k hlt))).trans (GV.out k hlt)
   cases hmo : msgOkB (mO T.buf k) (mK T.buf k) (mV T.buf k)
   ·have E := NO.out (fork_no_buf (i := k) (by rw [G4.out]; exact hlt) (by rw [msgAt, hmo]; rfl))
    subst E
    go_wp2_with fail
    refine (specMsgOk_any _ _ _ _).mono ?_
    rintro e w1 ⟨he, hb1⟩
    rw [hmo] at he
    subst he
    have B1 := hid (Below.and BB.out hb1)
    clear hb1
    go_wp2
    go_ret
    exact ⟨ret_int (by simp), B1.out⟩
   ·cases ho : (mO T.buf k == 4)
    ·cases hq : inB (mK T.buf k) lo (hi - 1)
     ·have E := NO.out (fork_no_buf (i := k) (by rw [G4.out]; exact hlt) (by rw [msgAt, hq]; simp))
      subst E
      go_wp2_with fail
      refine (specMsgOk_any _ _ _ _).mono ?_
      rintro e w1 ⟨he, hb1⟩
      rw [hmo] at he
      subst he
      have B1 := hid (Below.and BB.out hb1)
      have f0 := (hb1.cell (by exact cell_lt e0)).trans e0
      have f1 := (hb1.cell (by exact cell_lt e1)).trans e1
      have f2 := (hb1.cell (by exact cell_lt e2)).trans e2
      have k1 := (SS.out.step hb1).cells
      clear hb1
      go_wp2_with (go_at_call 16; refine (l1In_any _ _ _ _).mono ?_; rintro e w' ⟨rfl, rfl⟩)
      go_ret
      exact ⟨ret_int (by simp), B1.out⟩
     ·have OK : Hid (msgAt T lo hi k = true) := by
       show _ = _
       rw [msgAt, hmo, ho, hq]; rfl
      go_wp2_with fail
      refine (specMsgOk_any _ _ _ _).mono ?_
      rintro e w1 ⟨he, hb1⟩
      rw [hmo] at he
      subst he
      have B1 := hid (Below.and BB.out hb1)
      have f0 := (hb1.cell (by exact cell_lt e0)).trans e0
      have f1 := (hb1.cell (by exact cell_lt e1)).trans e1
      have f2 := (hb1.cell (by exact cell_lt e2)).trans e2
      have S1 := hid (SS.out.step hb1)
      have k1 := S1.out.cells
      clear hb1
      go_wp2_with (go_at_call 16; refine (l1In_any _ _ _ _).mono ?_; rintro e w' ⟨rfl, rfl⟩)
      go_roundw
      case rel => exact ⟨k + 1, by omega, by go_num, fun i hi => if h : i < k then ALL.out i h else by rw [show i = k by omega]; exact OK.out, B1, S1⟩
      case measure => simp [intOf]; omega
    ·have E := NO.out (fork_no_buf (i := k) (by rw [G4.out]; exact hlt) (by rw [msgAt, ho]; simp))
     subst E
     go_wp2_with fail
     refine (specMsgOk_any _ _ _ _).mono ?_
     rintro e w1 ⟨he, hb1⟩
     rw [hmo] at he
     subst he
     have B1 := hid (Below.and BB.out hb1)
     have f0 := (hb1.cell (by exact cell_lt e0)).trans e0
     have f1 := (hb1.cell (by exact cell_lt e1)).trans e1
     have f2 := (hb1.cell (by exact cell_lt e2)).trans e2
     have k1 := (SS.out.step hb1).cells
     clear hb1
     go_wp2
     go_ret
     exact ⟨ret_int (by simp), B1.out⟩
  ·have BUF := hid (fun i (hi : i < T.buf.length) => ALL.out i (by rw [G4.out] at hi; omega))
   have ZERO : Hid (kidsD (kidF m T lo hi) n3 = 0 → D = 0) := fun h => by
    cases hf : forkOkB T lo hi
    ·exact NO.out hf
    ·rw [YES.out hf]; exact h
   clear GO GK GV A4 ALL
   go_wp2
   clear hlt hkl
   go_loopw [11, 12, 13] (fun dp fr i wr => ∃ (k d : Nat) (y : Int), k ≤ n3 ∧ i = .int .i64 k ∧ dp = .int .i64 d ∧ fr = .int .i64 y ∧ 0 ≤ y ∧ y ≤ 1000 ∧ d ≤ 1000 ∧ Hid (k < n3 → y = fromT T lo k) ∧
     Hid ((0 < k → d = kidF m T lo hi 0 ∧ d ≠ 0) ∧ (∀ i, i < k → kidF m T lo hi i = kidF m T lo hi 0) ∧ (∀ i, i < k → i < n2 → cutAt T lo hi i = true)) ∧ Hid (Below w.heap.size w wr) ∧ Hid (OneAt wr w.heap.size #[.bool false, .slice a1 0 q1, .slice a2 n2 q2, .slice a3 n3 q3, .slice a4 n4 q4]))
    (fun _ _ i _ => n3 - (intOf i).toNat)
   case atStart => exact ⟨0, 0, lo, Nat.zero_le _, rfl, rfl, rfl, hl0, hl1, by omega, fun _ => rfl, ⟨fun h => absurd h (Nat.lt_irrefl _), fun i hi => absurd hi (Nat.not_lt_zero _), fun i hi => absurd hi (Nat.not_lt_zero _)⟩, BB, SS⟩
   case round =>
   clear BB SS k0
   obtain ⟨k, d, y, hkl, rfl, rfl, rfl, hy0, hy1, hd, YF, INV, BB, SS⟩ := hrel
   have k0 := SS.out.cells
   by_cases hlt : k < n3
   ·have hal := A3.out (by omega)
    subst hal
    have e0 := (BB.out.cell (by exact cell_lt (C0.out k hlt))).trans (C0.out k hlt)
    have e1 := (BB.out.cell (by exact cell_lt (C1.out k hlt))).trans (C1.out k hlt)
    have e2 := (BB.out.cell (by exact cell_lt (C2.out k hlt))).trans (C2.out k hlt)
    have e3 := (BB.out.cell (by exact cell_lt (C3.out k hlt))).trans (C3.out k hlt)
    have e4 := (BB.out.cell (by exact cell_lt (C4.out k hlt))).trans (C4.out k hlt)
    have T0 := hid ((KT.out k hlt).below BB.out)
    have TS := hid (KSZ.out k hlt)
    have Y0 := hid (YF.out hlt)
    obtain ⟨z, hz⟩ : ∃ z, kidF m T lo hi k = z := ⟨_, rfl⟩
    have ZE := hid (hz)
    clear hz
    by_cases hlast : k < n2
    ·have hl3 : (k : Int) < (n3 : Int) - 1 := by have := CL.out; omega
     have hal2 := A2.out (by omega)
     subst hal2
     have ec := (BB.out.cell (by exact cell_lt (CC.out k hlast))).trans (CC.out k hlast)
     cases hcut : inB (iAt T.cuts k) (y + 1) (hi - 1)
     ·have E := NO.out (fork_no_cut (i := k) (by rw [G2.out]; exact hlast) (by rw [cutAt, ← Y0.out]; exact hcut))
      subst E
      clear T0 e0 e1 e2 e3 e4
      go_wp2_with (go_at_call 16; refine (l1In_any _ _ _ _).mono ?_; rintro e w' ⟨rfl, rfl⟩)
      go_ret
      exact ⟨ret_int (by simp), BB.out⟩
     ·have hc2 := inB_iff.1 hcut
      obtain ⟨TO, hTO⟩ : ∃ TO, iAt T.cuts k = TO := ⟨_, rfl⟩
      have TO0 : 0 ≤ TO := by omega
      have TO1 : TO ≤ 1000 := by omega
      have TOE : Hid (toT T hi k = TO) := by
       show _ = _
       rw [toT, if_pos (by rw [G2.out]; exact hlast), hTO]
      have NX : Hid (k + 1 < n3 → TO = fromT T lo (k + 1)) := fun _ => by rw [← TOE.out]; exact fromT_succ (by rw [G2.out]; exact hlast)
      have CU : ∀ i, i < k + 1 → i < n2 → cutAt T lo hi i = true := fun i hi h2 => if h : i < k then INV.out.2.2 i h h2 else by rw [show i = k by omega, cutAt, ← Y0.out]; exact hcut
      rw [hTO] at ec hcut
      have EE : Hid (depthF m (kidT T k) y TO = z) := by
       show _ = _
       rw [← ZE.out, kidF, ← Y0.out, TOE.out]
      have HC := HH.out n (tvAt xs k) (kidT T k) y TO wr T0.out TS.out hy0 hy1 TO0 TO1
      rw [← MM.out] at HC
      have HC' : Hid _ := HC
      have CU' := hid (CU)
      clear HC CU hc2
      go_wp2_with (go_at_call 16; refine (l1In_any _ _ _ _).mono ?_; rintro e w' ⟨rfl, rfl⟩)
      refine Calls.mono HC'.out ?_
      rintro e w1 ⟨he, hb1⟩
      rw [EE.out] at he
      subst he
      have B1 := hid (Below.and BB.out hb1)
      have S1 := hid (SS.out.step hb1)
      have k1 := S1.out.cells
      have ZL : z ≤ 1000 := by
       have := depthF_le m (kidT T k) (fromT T lo k) (toT T hi k)
       have h2 := ZE.out
       unfold kidF at h2
       omega
      clear hb1 T0 e0 e1 e2 e3 e4
      by_cases hz : z = 0
      ·have E := ZERO.out (kidsD_zero (i := k) hlt (by rw [ZE.out]; exact hz))
       subst E
       subst hz
       go_wp2
       go_ret
       exact ⟨ret_int (by simp), B1.out⟩
      ·have hz1 : ((z : Int) == 0) = false := by rw [beq_eq_false_iff_ne]; omega
       cases k with
       | zero =>
        go_wp2
        go_roundw
        case rel => exact ⟨1, z, TO, by omega, by go_num, rfl, rfl, TO0, TO1, ZL, NX, ⟨fun _ => ⟨ZE.out.symm, hz⟩, fun i hi => by rw [show i = 0 by omega], CU'.out⟩, B1, S1⟩
        case measure => simp [intOf]; omega
       | succ k =>
        have hpos : (0 : Int) < ((k + 1 : Nat) : Int) := by omega
        have HD0 := hid ((INV.out.1 (by omega)).1)
        by_cases hzd : z = d
        ·have hzd1 : ((z : Int) != (d : Int)) = false := by rw [bne_eq_false_iff_eq]; omega
         have HZ : Hid (z = d) := hzd
         clear hzd
         go_wp2
         go_roundw
         case rel => exact ⟨k + 1 + 1, z, TO, by omega, by go_num, rfl, rfl, TO0, TO1, ZL, NX, ⟨fun _ => ⟨by rw [HZ.out]; exact HD0.out, hz⟩, fun i hi => if h : i < k + 1 then INV.out.2.1 i h else by rw [show i = k + 1 by omega, ZE.out, HZ.out]; exact HD0.out, CU'.out⟩, B1, S1⟩
         case measure => simp [intOf]; omega
        ·have hzd1 : ((z : Int) != (d : Int)) = true := by rw [bne_iff_ne]; omega
         have E := ZERO.out (kidsD_ne (i := k + 1) hlt (by rw [ZE.out, ← HD0.out]; exact hzd))
         subst E
         go_wp2
         go_ret
         exact ⟨ret_int (by simp), B1.out⟩
    ·have hl3 : ¬ (k : Int) < (n3 : Int) - 1 := by have := CL.out; omega
     obtain ⟨TO, hTO⟩ : ∃ TO, hi = TO := ⟨_, rfl⟩
     have TO0 : 0 ≤ TO := by omega
     have TO1 : TO ≤ 1000 := by omega
     have TOE : Hid (toT T hi k = TO) := by
      show _ = _
      rw [toT, if_neg (by rw [G2.out]; exact hlast), hTO]
     have NX : Hid (k + 1 < n3 → TO = fromT T lo (k + 1)) := fun h => absurd h (by have := CL.out; omega)
     have CU' := hid (fun i (hi : i < k + 1) (h2 : i < n2) => if h : i < k then INV.out.2.2 i h h2 else absurd h2 (by omega))
     have EE : Hid (depthF m (kidT T k) y TO = z) := by
      show _ = _
      rw [← ZE.out, kidF, ← Y0.out, TOE.out]
     have HC := HH.out n (tvAt xs k) (kidT T k) y TO wr T0.out TS.out hy0 hy1 TO0 TO1
     rw [← MM.out] at HC
     have HC' : Hid _ := HC
     clear HC
     rw [← hTO] at HC' EE TO0 TO1 NX TOE
     clear hTO
     go_wp2_with fail
     refine Calls.mono HC'.out ?_
     rintro e w1 ⟨he, hb1⟩
     rw [EE.out] at he
     subst he
     have B1 := hid (Below.and BB.out hb1)
     have S1 := hid (SS.out.step hb1)
     have k1 := S1.out.cells
     have ZL : z ≤ 1000 := by
      have := depthF_le m (kidT T k) (fromT T lo k) (toT T hi k)
      have h2 := ZE.out
      unfold kidF at h2
      omega
     clear hb1 T0 e0 e1 e2 e3 e4
     by_cases hz : z = 0
     ·have E := ZERO.out (kidsD_zero (i := k) hlt (by rw [ZE.out]; exact hz))
      subst E
      subst hz
      go_wp2
      go_ret
      exact ⟨ret_int (by simp), B1.out⟩
     ·have hz1 : ((z : Int) == 0) = false := by rw [beq_eq_false_iff_ne]; omega
      cases k with
      | zero =>
       go_wp2
       go_roundw
       case rel => exact ⟨1, z, hi, by omega, by go_num, rfl, rfl, TO0, TO1, ZL, NX, ⟨fun _ => ⟨ZE.out.symm, hz⟩, fun i hi => by rw [show i = 0 by omega], CU'.out⟩, B1, S1⟩
       case measure => simp [intOf]; omega
      | succ k =>
       have hpos : (0 : Int) < ((k + 1 : Nat) : Int) := by omega
       have HD0 := hid ((INV.out.1 (by omega)).1)
       by_cases hzd : z = d
       ·have hzd1 : ((z : Int) != (d : Int)) = false := by rw [bne_eq_false_iff_eq]; omega
        have HZ : Hid (z = d) := hzd
        clear hzd
        go_wp2
        go_roundw
        case rel => exact ⟨k + 1 + 1, z, hi, by omega, by go_num, rfl, rfl, TO0, TO1, ZL, NX, ⟨fun _ => ⟨by rw [HZ.out]; exact HD0.out, hz⟩, fun i hi => if h : i < k + 1 then INV.out.2.1 i h else by rw [show i = k + 1 by omega, ZE.out, HZ.out]; exact HD0.out, CU'.out⟩, B1, S1⟩
        case measure => simp [intOf]; omega
       ·have hzd1 : ((z : Int) != (d : Int)) = true := by rw [bne_iff_ne]; omega
        have E := ZERO.out (kidsD_ne (i := k + 1) hlt (by rw [ZE.out, ← HD0.out]; exact hzd))
        subst E
        go_wp2
        go_ret
        exact ⟨ret_int (by simp), B1.out⟩
   ·have hkk : k = n3 := by omega
    have hk0 : 0 < k := by have := CL.out; omega
    obtain ⟨hd0, hd1⟩ := INV.out.1 hk0
    have E : Hid (D = d + 1) := by
     show _ = _
     rw [YES.out (fork_yes SH.out BUF.out (fun i hi => INV.out.2.2 i (by have := CL.out; rw [G2.out] at hi; omega) (by rw [G2.out] at hi; exact hi))), kidsD_yes (by rw [← hd0]; exact hd1) (fun i hi => INV.out.2.1 i (by omega)), hd0]
    clear hd0 hd1
    go_wp2
    go_ret
    exact ⟨ret_int (by rw [E.out]; omega), BB.out⟩

theorem l2Depth_any : ∀ m, m ≤ 1000 → L2Depth m
 | 0, _ => l2Depth_zero
 | m + 1, hm => fun n x T lo hi w ht hsz hl0 hl1 hh0 hh1 => by
  cases hlf : T.leaf
  ·exact l2Depth_fork (by omega) (l2Depth_any m (by omega)) n x T lo hi w ht hlf hsz hl0 hl1 hh0 hh1
  ·exact l2Depth_leaf (by omega) n x T lo hi w ht hlf hsz hh0 hh1
end
section
open Go.RowKit

theorem specTreeDepth_any (n : Nat) (x : TV) (T : Tr) (w : World) (ht : TreeAt n w x T) (hsz : sizeT n T ≤ 1099511627776) :
  Calls Try.prog 36 #[x.val] w fun e w' => e = .returned (.int .i64 (depthT T : Nat)) ∧ Below w.heap.size w w' := by
 have TT : Hid (TreeAt n w x T) := ht
 clear ht
 obtain ⟨lf, p, c, k, b⟩ := x
 have B0 : Hid _ := bel_box w #[.bool lf, p, c, k, b]
 have HC := l2Depth_any 7 (by omega) n ⟨lf, p, c, k, b⟩ T 0 1000 _ (TT.out.below B0.out) hsz (by omega) (by omega) (by omega) (by omega)
 have HC' : Hid _ := HC
 clear HC
 show Calls Try.prog 36 #[.agg #[.bool lf, p, c, k, b]] w _
 unfold depthT
 generalize depthF 7 T 0 1000 = d at *
 go_enter Try.func36, Try.ntmps36
 go_wp2_with fail
 refine Calls.mono HC'.out ?_
 rintro e w1 ⟨rfl, hb1⟩
 have B1 : Hid (Below w.heap.size w w1) := Below.and B0.out hb1
 clear hb1 B0
 go_wp2
 go_ret
 exact ⟨rfl, B1.out⟩

theorem specTreeOk_any (n : Nat) (x : TV) (T : Tr) (w : World) (ht : TreeAt n w x T) (hsz : sizeT n T ≤ 1099511627776) :
  Calls Try.prog 27 #[x.val] w fun e w' => e = .returned (.bool (okT T)) ∧ Below w.heap.size w w' := by
 have TT : Hid (TreeAt n w x T) := ht
 clear ht
 obtain ⟨lf, p, c, k, b⟩ := x
 have B0 : Hid _ := bel_box w #[.bool lf, p, c, k, b]
 have HC := specTreeDepth_any n ⟨lf, p, c, k, b⟩ T _ (TT.out.below B0.out) hsz
 have HC' : Hid _ := HC
 clear HC
 show Calls Try.prog 27 #[.agg #[.bool lf, p, c, k, b]] w _
 unfold okT
 generalize depthT T = d at *
 go_enter Try.func27, Try.ntmps27
 go_wp2_with fail
 refine Calls.mono HC'.out ?_
 rintro e w1 ⟨rfl, hb1⟩
 have B1 : Hid (Below w.heap.size w w1) := Below.and B0.out hb1
 clear hb1 B0
 go_wp2
 go_ret
 exact ⟨rfl, B1.out⟩

def CountIs (g : FuncId) (n : Nat) : Prop := ∀ (x : TV) (T : Tr) (w : World), TreeAt n w x T → sizeT n T ≤ 1099511627776 →
  Calls Try.prog g #[x.val] w fun e w' => e = .returned (.tuple #[.int .i64 (pairsF n T : Nat), .int .i64 (msgsF n T : Nat)]) ∧ Below w.heap.size w w'
end
end Go.Proofs.Ytekcnibohikmdaa
