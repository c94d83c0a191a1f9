/-
  Contracts of the model's chapter 2: l2Leaf.
-/
import Derived.Test.YtmoaccohnmkleaaTreeMath
import Derived.Test.YtmoaccohnmkleaaMapOk
namespace Go.Proofs.Ytmoaccohnmkleaa
open Go.RowKit

/-- A BOX OF A TREE'S STRUCT. -/
def OneAt (u : World) (B : Nat) (A : Array Value) : Prop := u.heap[B]? = some (.cells A 37 (0, 0))
theorem OneAt.step {u w' : World} {B : Nat} {A : Array Value} (h : OneAt u B A) (hb : Below u.heap.size u w') : OneAt w' B A :=
  (hb.block _ (Array.getElem?_eq_some_iff.1 h).1).trans h
theorem OneAt.cells {u : World} {B : Nat} {A : Array Value} (h : OneAt u B A) : ∀ j, u.cell? ⟨B, j, none⟩ = A[j]? := fun j => cell_of_row u B j A 37 (0, 0) h
theorem OneAt.start (w : World) (A : Array Value) : OneAt (w.alloc (.cells A 37)) w.heap.size A := heap_alloc_new w _
theorem bel_box (w : World) (A : Array Value) : Below w.heap.size w (w.alloc (.cells A 37)) := (Below.refl _ _).alloc (Nat.le_refl _) _

theorem TreesAt.len {n : Nat} {w : World} {v : Value} {ts : List Tr} (h : TreesAt n w v ts) : ∃ (a : Option Addr) (cap : Nat), v = .slice a ts.length cap ∧ ts.length ≤ maxLen := by
  obtain ⟨xs, hl, hr, _⟩ := h
  obtain ⟨a, q, e, m⟩ := hr.len
  rw [hl] at e m
  exact ⟨a, q, e, m⟩

theorem leaf_no1 {T : Tr} {lo hi : Int} (h : mapOkB T.pairs = false) : leafOkB T lo hi = false := by simp [leafOkB, h]
theorem leaf_no2 {T : Tr} {lo hi : Int} (h : ¬ T.pairs.length ≤ 4) : leafOkB T lo hi = false := by
  rw [leafOkB, decide_eq_false h]; simp
theorem leaf_no3 {T : Tr} {lo hi : Int} (h : ¬ T.cuts.length + T.kids.length + T.buf.length = 0) : leafOkB T lo hi = false := by
  rw [leafOkB, decide_eq_false h]; simp
theorem leaf_no4 {T : Tr} {lo hi : Int} {i : Nat} (hi' : i < T.pairs.length) (h : pairAt T lo hi i = false) : leafOkB T lo hi = false := by
  rw [leafOkB, pairsInB, allB_false hi' h]; simp
theorem leaf_yes {T : Tr} {lo hi : Int} (h1 : mapOkB T.pairs = true) (h2 : T.pairs.length ≤ 4) (h3 : T.cuts.length + T.kids.length + T.buf.length = 0) (h4 : ∀ i, i < T.pairs.length → pairAt T lo hi i = true) : leafOkB T lo hi = true := by
  rw [leafOkB, h1, decide_eq_true h2, decide_eq_true h3, pairsInB, allB_true h4]; rfl

/-- 1 of a leaf that is right, else 0 -/
def leafD (T : Tr) (lo hi : Int) : Int := if leafOkB T lo hi = true then 1 else 0
theorem leafD_no {T : Tr} {lo hi : Int} (h : leafOkB T lo hi = false) : leafD T lo hi = 0 := by simp [leafD, h]
theorem leafD_yes {T : Tr} {lo hi : Int} (h : leafOkB T lo hi = true) : leafD T lo hi = 1 := by simp [leafD, h]

set_option maxHeartbeats 2000000 in
theorem l2Leaf_any (n : Nat) (x : TV) (T : Tr) (lo hi : Int) (w : World) (ht : TreeAt n w x T) (hsz : sizeT n T ≤ 1099511627776) (hh0 : 0 ≤ hi) (hh1 : hi ≤ 1000) :
    Calls Try.prog 46 #[x.val, .int .i64 lo, .int .i64 hi] w fun e w' => e = .returned (.int .i64 (leafD T lo hi)) ∧ Below w.heap.size w w' := by
  cases n with
  | zero => exact ht.elim
  | succ n =>
  obtain ⟨lf, p, c, k, b⟩ := x
  obtain ⟨hlf, hp, hc, hb, hk⟩ := ht.parts
  simp only at hlf hp hc hb hk
  obtain ⟨a2, q2, rfl, m2⟩ := hc.len
  obtain ⟨a3, q3, rfl, m3⟩ := hk.len
  obtain ⟨a4, q4, rfl, m4⟩ := hb.len
  obtain ⟨a, bb, off, cap, rfl, hcap, hmax, ha, ck, cv⟩ := hp.pairs
  have R1 : Hid (Row w (.slice a T.pairs.length cap) T.pairs.length (flatP T.pairs)) := hp
  unfold maxLen at hmax
  clear m2 m3 m4
  have hS : sizeT (n + 1) T = T.pairs.length + (T.cuts.length + (T.kids.length + (T.kids.map (sizeT n)).sum + T.buf.length)) := rfl
  have m2 : T.cuts.length ≤ 1099511627776 := by omega
  have m3 : T.kids.length ≤ 1099511627776 := by omega
  have m4 : T.buf.length ≤ 1099511627776 := by omega
  clear hS hsz
  clear ht hp hc hb hk hlf
  show Calls Try.prog 46 #[.agg #[.bool lf, .slice a T.pairs.length cap, .slice a2 T.cuts.length q2, .slice a3 T.kids.length q3, .slice a4 T.buf.length q4], .int .i64 lo, .int .i64 hi] w _
  have B0 : Hid _ := bel_box w #[.bool lf, .slice a T.pairs.length cap, .slice a2 T.cuts.length q2, .slice a3 T.kids.length q3, .slice a4 T.buf.length q4]
  have S0 : Hid (OneAt _ w.heap.size _) := OneAt.start w #[.bool lf, .slice a T.pairs.length cap, .slice a2 T.cuts.length q2, .slice a3 T.kids.length q3, .slice a4 T.buf.length q4]
  cases hmo : mapOkB T.pairs
  · have E : Hid (leafOkB T lo hi = false) := leaf_no1 hmo
    go_enter Try.func46, Try.ntmps46
    go_wp2_with fail
    refine (specMapOk_any _ _ _ (R1.out.below B0.out)).mono ?_
    rintro e w1 ⟨he, hb1⟩
    rw [hmo] at he
    subst he
    have B1 : Hid (Below w.heap.size w w1) := Below.and B0.out hb1
    clear B0 S0 hb1
    go_wp2
    go_ret
    exact ⟨ret_int (leafD_no E.out).symm, B1.out⟩
  · by_cases h4 : T.pairs.length ≤ 4
    · by_cases h0 : T.cuts.length + T.kids.length + T.buf.length = 0
      · have z2 : T.cuts.length = 0 := by omega
        have z3 : T.kids.length = 0 := by omega
        have z4 : T.buf.length = 0 := by omega
        have YES : Hid ((∀ i, i < T.pairs.length → pairAt T lo hi i = true) → leafOkB T lo hi = true) := fun h => leaf_yes hmo h4 (by omega) h
        rw [z2, z3, z4] at B0 S0 ⊢
        clear z2 z3 z4 h0
        go_enter Try.func46, Try.ntmps46
        go_wp2_with fail
        refine (specMapOk_any _ _ _ (R1.out.below B0.out)).mono ?_
        rintro e w1 ⟨he, hb1⟩
        rw [hmo] at he
        subst he
        have B1 : Hid (Below w.heap.size w w1) := Below.and B0.out hb1
        have S1 : Hid (OneAt w1 w.heap.size #[.bool lf, .slice a T.pairs.length cap, .slice a2 0 q2, .slice a3 0 q3, .slice a4 0 q4]) := S0.out.step hb1
        have k0 := S1.out.cells
        clear B0 S0 hb1
        go_wp2
        go_loopw [7] (fun i wr => ∃ k : Nat, k ≤ T.pairs.length ∧ i = .int .i64 k ∧ wr = w1 ∧ Hid (∀ i, i < k → pairAt T lo hi i = true))
          (fun i _ => T.pairs.length - (intOf i).toNat)
        case atStart => exact ⟨0, Nat.zero_le _, rfl, rfl, fun i hi => absurd hi (Nat.not_lt_zero _)⟩
        case round =>
          obtain ⟨k, hkl, rfl, rfl, ALL⟩ := hrel
          by_cases hlt : k < T.pairs.length
          · have hal := ha (by omega)
            subst hal
            have d0 := (B1.out.cell (by exact cell_lt (ck k hlt))).trans (ck k hlt)
            clear ck cv ha
            cases hq : inB (kOf T.pairs k) lo (hi - 1)
            · have NO : Hid (leafOkB T lo hi = false) := leaf_no4 hlt hq
              go_wp2_with (go_at_call 11; refine (l1In_any _ _ _ _).mono ?_; rintro e w' ⟨rfl, rfl⟩)
              go_ret
              exact ⟨ret_int (leafD_no NO.out).symm, B1.out⟩
            · have YS : Hid (pairAt T lo hi k = true) := hq
              go_wp2_with (go_at_call 11; refine (l1In_any _ _ _ _).mono ?_; rintro e w' ⟨rfl, rfl⟩)
              go_roundw
              case rel => exact ⟨k + 1, by omega, by go_num, trivial, fun i hi => if h : i < k then ALL.out i h else by rw [show i = k by omega]; exact YS.out⟩
              case measure => simp [intOf]; omega
          · clear ck cv ha
            go_wp2
            go_ret
            exact ⟨ret_int (leafD_yes (YES.out (fun i hi => ALL.out i (by omega)))).symm, B1.out⟩
      · have E : Hid (leafOkB T lo hi = false) := leaf_no3 (by omega)
        have hpos : (0 : Int) < (T.cuts.length : Int) + (T.kids.length : Int) + (T.buf.length : Int) := by omega
        clear h0
        go_enter Try.func46, Try.ntmps46
        go_wp2_with fail
        refine (specMapOk_any _ _ _ (R1.out.below B0.out)).mono ?_
        rintro e w1 ⟨he, hb1⟩
        rw [hmo] at he
        subst he
        have B1 : Hid (Below w.heap.size w w1) := Below.and B0.out hb1
        have S1 : Hid (OneAt w1 w.heap.size #[.bool lf, .slice a T.pairs.length cap, .slice a2 T.cuts.length q2, .slice a3 T.kids.length q3, .slice a4 T.buf.length q4]) := S0.out.step hb1
        have k0 := S1.out.cells
        clear B0 S0 hb1
        go_wp2
        go_ret
        exact ⟨ret_int (leafD_no E.out).symm, B1.out⟩
    · have E : Hid (leafOkB T lo hi = false) := leaf_no2 h4
      have h4' : (4 : Int) < (T.pairs.length : Int) := by omega
      clear h4
      go_enter Try.func46, Try.ntmps46
      go_wp2_with fail
      refine (specMapOk_any _ _ _ (R1.out.below B0.out)).mono ?_
      rintro e w1 ⟨he, hb1⟩
      rw [hmo] at he
      subst he
      have B1 : Hid (Below w.heap.size w w1) := Below.and B0.out hb1
      have S1 : Hid (OneAt w1 w.heap.size #[.bool lf, .slice a T.pairs.length cap, .slice a2 T.cuts.length q2, .slice a3 T.kids.length q3, .slice a4 T.buf.length q4]) := S0.out.step hb1
      have k0 := S1.out.cells
      clear B0 S0 hb1
      go_wp2
      go_ret
      exact ⟨ret_int (leafD_no E.out).symm, B1.out⟩

end Go.Proofs.Ytmoaccohnmkleaa
