/-
  Contracts of the laws' own functions that copy a tree, of any height.
  Contracts of the program's chapter 2: kindOf, tooDeep, has, splits, rootOf, kid.
  Contracts of the program's chapter 2: rootOf, kid.
  The contract of the program's kid.
-/
import Derived.Test.YtmdajbbpigbdcaaGreatOfRise4
import Derived.Deep.DeepCutAuto
namespace Go.Proofs.YtmdajbbpigbdcaaGreat
set_option maxRecDepth 100000
set_option maxHeartbeats 8000000
section
open Go.RowKit

theorem TreeAt.shape : ∀ {n : Nat} {w : World} {x : TV} {T : Tr}, TreeAt n w x T → ∃ (a1 a2 a3 a4 : Option Addr) (c1 c2 c3 c4 : Nat), x = ⟨T.leaf, .slice a1 T.pairs.length c1, .slice a2 T.cuts.length c2, .slice a3 T.kids.length c3, .slice a4 T.buf.length c4⟩
 | 0, _, _, _, h => h.elim
 | _ + 1, _, ⟨lf, p, c, k, b⟩, T, ⟨h1, h2, h3, h4, xs, h5, h6, h7⟩ => by
  simp only at h1 h2 h3 h4 h6
  obtain ⟨a1, c1, rfl, _⟩ := h2.len
  obtain ⟨a2, c2, rfl, _⟩ := h3.len
  obtain ⟨a4, c4, rfl, _⟩ := h4.len
  obtain ⟨a3, c3, rfl, _⟩ := h6.len
  subst h1
  exact ⟨a1, a2, a3, a4, c1, c2, c3, c4, by rw [h5]⟩

structure OutAt (u : World) (B : Nat) (A Z O : Array Value) : Prop where
 h0 : u.heap[B]? = some (.cells A 30 (0, 0))
 h1 : u.heap[B + 1]? = some (.cells Z 45 (0, 0))
 h2 : u.heap[B + 1 + 1]? = some (.cells O 45 (0, 0))
theorem OutAt.size {u : World} {B : Nat} {A Z O : Array Value} (h : OutAt u B A Z O) : B + 3 ≤ u.heap.size := by
 have := (Array.getElem?_eq_some_iff.1 h.h2).1
 omega
theorem OutAt.step {u w' : World} {B : Nat} {A Z O : Array Value} (h : OutAt u B A Z O) (hb : Below u.heap.size u w') : OutAt w' B A Z O := by
 have hs := h.size
 exact ⟨(hb.block _ (by omega)).trans h.h0, (hb.block _ (by omega)).trans h.h1, (hb.block _ (by omega)).trans h.h2⟩
theorem OutAt.set {u : World} {B : Nat} {A Z O : Array Value} (h : OutAt u B A Z O) (j : Nat) (v : Value) : OutAt (u.setCell ⟨B + 1 + 1, j, none⟩ v) B A Z (O.setIfInBounds j v) := by
 refine ⟨?_, ?_, heap_setCell_same u (B + 1 + 1) j O 45 v h.h2⟩
 ·rw [Below.heap_setCell _ _ _ _ (by show B ≠ B + 1 + 1; omega)]; exact h.h0
 ·rw [Below.heap_setCell _ _ _ _ (by show B + 1 ≠ B + 1 + 1; omega)]; exact h.h1
theorem OutAt.cells {u : World} {B : Nat} {A Z O : Array Value} (h : OutAt u B A Z O) : (∀ j, u.cell? ⟨B, j, none⟩ = A[j]?) ∧ (∀ j, u.cell? ⟨B + 1, j, none⟩ = Z[j]?) ∧ (∀ j, u.cell? ⟨B + 1 + 1, j, none⟩ = O[j]?) ∧ (∀ j, u.frozen? ⟨B + 1, j, none⟩ = false) ∧ (∀ j, u.frozen? ⟨B + 1 + 1, j, none⟩ = false) :=
 ⟨fun j => cell_of_row u B j A 30 (0, 0) h.h0, fun j => cell_of_row u (B + 1) j Z 45 (0, 0) h.h1, fun j => cell_of_row u (B + 1 + 1) j O 45 (0, 0) h.h2, fun j => frozen_of_row u (B + 1) j Z 45 h.h1, fun j => frozen_of_row u (B + 1 + 1) j O 45 h.h2⟩
theorem OutAt.start (w : World) (A Z O : Array Value) : OutAt (((w.alloc (.cells A 30)).alloc (.cells Z 45)).alloc (.cells O 45)) w.heap.size A Z O := by
 have e : ∀ (x : World) (o : Obj), (x.alloc o).heap.size = x.heap.size + 1 := fun x o => by simp
 have k1 : ∀ (x : World) (o : Obj) (g : Nat), g < x.heap.size → (x.alloc o).heap[g]? = x.heap[g]? := fun x o g hg => ((Below.refl x.heap.size x).alloc (Nat.le_refl _) o).block g hg
 refine ⟨?_, ?_, ?_⟩
 ·rw [k1 _ _ _ (by rw [e, e]; omega), k1 _ _ _ (by rw [e]; omega)]; exact heap_alloc_new w _
 ·rw [k1 _ _ _ (by rw [e, e]; omega), ← e w (.cells A 30)]; exact heap_alloc_new _ _
 ·rw [show w.heap.size + 1 + 1 = ((w.alloc (.cells A 30)).alloc (.cells Z 45)).heap.size by rw [e, e]]; exact heap_alloc_new _ _
end
section
open Go.RowKit

def BoxAt (t : TypeId) (u : World) (B : Nat) (A : Array Value) : Prop := u.heap[B]? = some (.cells A t (0, 0))
theorem BoxAt.step {t : TypeId} {u w' : World} {B : Nat} {A : Array Value} (h : BoxAt t u B A) (hb : Below u.heap.size u w') : BoxAt t w' B A :=
 (hb.block _ (Array.getElem?_eq_some_iff.1 h).1).trans h
theorem BoxAt.cells {t : TypeId} {u : World} {B : Nat} {A : Array Value} (h : BoxAt t u B A) : ∀ j, u.cell? ⟨B, j, none⟩ = A[j]? := fun j => cell_of_row u B j A t (0, 0) h
theorem BoxAt.start (t : TypeId) (w : World) (A : Array Value) : BoxAt t (w.alloc (.cells A t)) w.heap.size A := heap_alloc_new w _
theorem bel_new (w : World) (o : Obj) : Below w.heap.size w (w.alloc o) := (Below.refl _ _).alloc (Nat.le_refl _) _

def kindN (T : Tr) : Int := if T.leaf = true then (if T.cuts.length = 0 ∧ T.kids.length = 0 ∧ T.buf.length = 0 then 1 else 0) else (if T.pairs.length = 0 then 2 else 0)
theorem kindN_leaf {T : Tr} (h : T.leaf = true) (hb : T.cuts.length = 0 ∧ T.kids.length = 0 ∧ T.buf.length = 0) : kindN T = 1 := by rw [kindN, if_pos h, if_pos hb]
theorem kindN_leaf_no {T : Tr} (h : T.leaf = true) (hb : ¬ (T.cuts.length = 0 ∧ T.kids.length = 0 ∧ T.buf.length = 0)) : kindN T = 0 := by rw [kindN, if_pos h, if_neg hb]
theorem kindN_fork {T : Tr} (h : T.leaf = false) (hb : T.pairs.length = 0) : kindN T = 2 := by rw [kindN, if_neg (by rw [h]; decide), if_pos hb]
theorem kindN_fork_no {T : Tr} (h : T.leaf = false) (hb : ¬ T.pairs.length = 0) : kindN T = 0 := by rw [kindN, if_neg (by rw [h]; decide), if_neg hb]

theorem kindOf_any (n : Nat) (x : TV) (T : Tr) (w : World) (ht : TreeAt n w x T) :
  Calls Tryz.prog 147 #[x.val] w fun e w' => e = .returned (.int .i64 (kindN T)) ∧ Below w.heap.size w w' := by
 obtain ⟨a1, a2, a3, a4, q1, q2, q3, q4, rfl⟩ := ht.shape
 show Calls Tryz.prog 147 #[.agg #[.bool T.leaf, .slice a1 T.pairs.length q1, .slice a2 T.cuts.length q2, .slice a3 T.kids.length q3, .slice a4 T.buf.length q4]] w _
 have K1 : Hid (T.leaf = true → (T.cuts.length = 0 ∧ T.kids.length = 0 ∧ T.buf.length = 0) → kindN T = 1) := kindN_leaf
 have K2 : Hid (T.leaf = true → ¬ (T.cuts.length = 0 ∧ T.kids.length = 0 ∧ T.buf.length = 0) → kindN T = 0) := kindN_leaf_no
 have K3 : Hid (T.leaf = false → T.pairs.length = 0 → kindN T = 2) := kindN_fork
 have K4 : Hid (T.leaf = false → ¬ T.pairs.length = 0 → kindN T = 0) := kindN_fork_no
 clear ht
 generalize kindN T = R at *
 generalize T.pairs.length = n1 at *
 generalize T.cuts.length = n2 at *
 generalize T.kids.length = n3 at *
 generalize T.buf.length = n4 at *
 cases hlf : T.leaf
 ·cases h1 : ((n1 : Int) == 0)
  ·have E := K4.out hlf (by rw [beq_eq_false_iff_ne] at h1; omega)
   subst E
   cases h2 : ((n2 : Int) == 0) <;> cases h3 : ((n3 : Int) == 0) <;> cases h4 : ((n4 : Int) == 0)
   all_goals
    go_enter Tryz.func147, Tryz.ntmps147
    go_wp2
    go_ret
    exact ⟨rfl, bel_new _ _⟩
  ·have E := K3.out hlf (by rw [beq_iff_eq] at h1; omega)
   subst E
   cases h2 : ((n2 : Int) == 0) <;> cases h3 : ((n3 : Int) == 0) <;> cases h4 : ((n4 : Int) == 0)
   all_goals
    go_enter Tryz.func147, Tryz.ntmps147
    go_wp2
    go_ret
    exact ⟨rfl, bel_new _ _⟩
 ·cases h2 : ((n2 : Int) == 0)
  ·have E := K2.out hlf (by rw [beq_eq_false_iff_ne] at h2; omega)
   subst E
   cases h3 : ((n3 : Int) == 0) <;> cases h4 : ((n4 : Int) == 0)
   all_goals
    go_enter Tryz.func147, Tryz.ntmps147
    go_wp2
    go_ret
    exact ⟨rfl, bel_new _ _⟩
  ·cases h3 : ((n3 : Int) == 0)
   ·have E := K2.out hlf (by rw [beq_eq_false_iff_ne] at h3; omega)
    subst E
    cases h4 : ((n4 : Int) == 0)
    all_goals
     go_enter Tryz.func147, Tryz.ntmps147
     go_wp2
     go_ret
     exact ⟨rfl, bel_new _ _⟩
   ·cases h4 : ((n4 : Int) == 0)
    ·have E := K2.out hlf (by rw [beq_eq_false_iff_ne] at h4; omega)
     subst E
     go_enter Tryz.func147, Tryz.ntmps147
     go_wp2
     go_ret
     exact ⟨rfl, bel_new _ _⟩
    ·have E := K1.out hlf (by rw [beq_iff_eq] at h2 h3 h4; omega)
     subst E
     go_enter Tryz.func147, Tryz.ntmps147
     go_wp2
     go_ret
     exact ⟨rfl, bel_new _ _⟩

abbrev placeV (kd lo hi ab : Int) : Value := .agg #[.int .i64 kd, .int .i64 lo, .int .i64 hi, .int .i64 ab]
abbrev placedV (kd lo hi ab : Int) (x : TV) : Value := .agg #[.int .i64 kd, .int .i64 lo, .int .i64 hi, .int .i64 ab, .bool x.lf, x.p, x.c, x.k, x.b]

theorem tooDeep_any (kd lo hi ab : Int) (w : World) :
  Calls Tryz.prog 148 #[placeV kd lo hi ab] w fun e w' => e = .returned (.bool (decide (7 ≤ ab))) ∧ Below w.heap.size w w' := by
 go_enter Tryz.func148, Tryz.ntmps148
 go_wp2
 go_ret
 exact ⟨rfl, bel_new _ _⟩

theorem has_any (kd lo hi ab k : Int) (w : World) :
  Calls Tryz.prog 155 #[placeV kd lo hi ab, .int .i64 k] w fun e w' => e = .returned (.bool (inB k lo (hi - 1))) ∧ Below w.heap.size w w' := by
 by_cases h1 : lo ≤ k
 ·by_cases h2 : k < hi
  ·have E : Hid (inB k lo (hi - 1) = true) := inB_true h1 (by omega)
   go_enter Tryz.func155, Tryz.ntmps155
   go_wp2
   go_ret
   exact ⟨ret_bool E.out.symm, bel_new _ _⟩
  ·have E : Hid (inB k lo (hi - 1) = false) := inB_false2 (by omega)
   go_enter Tryz.func155, Tryz.ntmps155
   go_wp2
   go_ret
   exact ⟨ret_bool E.out.symm, bel_new _ _⟩
 ·have E : Hid (inB k lo (hi - 1) = false) := inB_false1 h1
  go_enter Tryz.func155, Tryz.ntmps155
  go_wp2
  go_ret
  exact ⟨ret_bool E.out.symm, bel_new _ _⟩

theorem splits_any (kd lo hi ab k : Int) (w : World) :
  Calls Tryz.prog 156 #[placeV kd lo hi ab, .int .i64 k] w fun e w' => e = .returned (.bool (inB k (lo + 1) (hi - 1))) ∧ Below w.heap.size w w' := by
 by_cases h1 : lo < k
 ·by_cases h2 : k < hi
  ·have E : Hid (inB k (lo + 1) (hi - 1) = true) := inB_true (by omega) (by omega)
   go_enter Tryz.func156, Tryz.ntmps156
   go_wp2
   go_ret
   exact ⟨ret_bool E.out.symm, bel_new _ _⟩
  ·have E : Hid (inB k (lo + 1) (hi - 1) = false) := inB_false2 (by omega)
   go_enter Tryz.func156, Tryz.ntmps156
   go_wp2
   go_ret
   exact ⟨ret_bool E.out.symm, bel_new _ _⟩
 ·have E : Hid (inB k (lo + 1) (hi - 1) = false) := inB_false1 (by omega)
  go_enter Tryz.func156, Tryz.ntmps156
  go_wp2
  go_ret
  exact ⟨ret_bool E.out.symm, bel_new _ _⟩
end
section
open Go.RowKit

theorem BoxAt.second (t1 t2 : TypeId) (w : World) (A Z : Array Value) : BoxAt t2 (((w.alloc (.cells A t1)).alloc (.cells Z t2)).drew) (w.heap.size + 1) Z := by
 have e : (w.alloc (.cells A t1)).heap.size = w.heap.size + 1 := by simp
 have := heap_alloc_new (w.alloc (.cells A t1)) (.cells Z t2)
 rw [e] at this
 exact this

theorem rootOf_any (n : Nat) (x : TV) (T : Tr) (w : World) (ht : TreeAt n w x T) :
  Calls Tryz.prog 141 #[x.val] w fun e w' => e = .returned (placedV (kindN T) 0 1000 0 x) ∧ Below w.heap.size w w' := by
 obtain ⟨a1, a2, a3, a4, q1, q2, q3, q4, hx⟩ := ht.shape
 have TT : Hid (TreeAt n w x T) := ht
 clear ht
 subst hx
 generalize T.pairs.length = n1 at *
 generalize T.cuts.length = n2 at *
 generalize T.kids.length = n3 at *
 generalize T.buf.length = n4 at *
 show Calls Tryz.prog 141 #[.agg #[.bool T.leaf, .slice a1 n1 q1, .slice a2 n2 q2, .slice a3 n3 q3, .slice a4 n4 q4]] w fun e w' => e = .returned (.agg #[.int .i64 (kindN T), .int .i64 0, .int .i64 1000, .int .i64 0, .bool T.leaf, .slice a1 n1 q1, .slice a2 n2 q2, .slice a3 n3 q3, .slice a4 n4 q4]) ∧ Below w.heap.size w w'
 go_enter Tryz.func141, Tryz.ntmps141
 go_wp2_with fail
 have B0 : Hid (Below w.heap.size w (((w.alloc (.cells #[.bool T.leaf, .slice a1 n1 q1, .slice a2 n2 q2, .slice a3 n3 q3, .slice a4 n4 q4] 45)).alloc (.cells #[.int .i64 0, .int .i64 0, .int .i64 0, .int .i64 0, .bool false, .slice none 0 0, .slice none 0 0, .slice none 0 0, .slice none 0 0] 180)).drew)) :=
  (((Below.refl _ _).alloc (Nat.le_refl _) _).alloc (by simp) _).drew
 have HC : Hid (∀ w0, Below w.heap.size w w0 → Calls Tryz.prog 147 #[.agg #[.bool T.leaf, .slice a1 n1 q1, .slice a2 n2 q2, .slice a3 n3 q3, .slice a4 n4 q4]] w0 fun e w' => e = .returned (.int .i64 (kindN T)) ∧ Below w0.heap.size w0 w') := fun w0 hb => kindOf_any n ⟨T.leaf, .slice a1 n1 q1, .slice a2 n2 q2, .slice a3 n3 q3, .slice a4 n4 q4⟩ T w0 (TT.out.below hb)
 go_region_with (go_at_call 147; refine (HC.out _ B0.out).mono ?_; rintro e w1 ⟨rfl, hb1⟩; obtain ⟨hc, hf⟩ := bcell hb1)
 all_goals
  have B1 : Hid (Below w.heap.size w w1) := Below.and B0.out hb1
  have k1 := ((BoxAt.second 45 180 w _ _).step hb1).cells
  go_wp2
  refine bodyPost_ret (v := .agg #[.int .i64 (kindN T), .int .i64 0, .int .i64 1000, .int .i64 0, .bool T.leaf, .slice a1 n1 q1, .slice a2 n2 q2, .slice a3 n3 q3, .slice a4 n4 q4]) (by simp [results, Tryz.results141, go_sem, k1]) rfl ⟨rfl, ?_⟩
  repeat (refine Below.setCell ?_ (by simp only []; omega) _)
  exact B1.out
end
section
open Go.RowKit

theorem wp_gen {P : Program} {code : Code} {Q : Exit → Act → World → Prop} {a : Act} {w0 : World} (S : World → Prop) (h0 : S w0) (h : ∀ W, S W → Code.wp P code Q a W) : Code.wp P code Q a w0 := h _ h0

structure ThreeAt (u : World) (B : Nat) (A Z K : Array Value) : Prop where
 h0 : u.heap[B]? = some (.cells A 180 (0, 0))
 h1 : u.heap[B + 1]? = some (.cells Z 180 (0, 0))
 h2 : u.heap[B + 1 + 1]? = some (.cells K 45 (0, 0))
theorem ThreeAt.step {u w' : World} {B : Nat} {A Z K : Array Value} (h : ThreeAt u B A Z K) (hb : Below u.heap.size u w') : ThreeAt w' B A Z K := by
 have hs := (Array.getElem?_eq_some_iff.1 h.h2).1
 exact ⟨(hb.block _ (by omega)).trans h.h0, (hb.block _ (by omega)).trans h.h1, (hb.block _ (by omega)).trans h.h2⟩
theorem ThreeAt.cells {u : World} {B : Nat} {A Z K : Array Value} (h : ThreeAt u B A Z K) : (∀ j, u.cell? ⟨B, j, none⟩ = A[j]?) ∧ (∀ j, u.cell? ⟨B + 1, j, none⟩ = Z[j]?) ∧ (∀ j, u.frozen? ⟨B + 1, j, none⟩ = false) ∧ (∀ j, u.cell? ⟨B + 1 + 1, j, none⟩ = K[j]?) :=
 ⟨fun j => cell_of_row u B j A 180 (0, 0) h.h0, fun j => cell_of_row u (B + 1) j Z 180 (0, 0) h.h1, fun j => frozen_of_row u (B + 1) j Z 180 h.h1, fun j => cell_of_row u (B + 1 + 1) j K 45 (0, 0) h.h2⟩
theorem kid_any (n : Nat) (x : TV) (T : Tr) (kd lo hi ab : Int) (i : Nat) (w : World) (ht : TreeAt (n + 1) w x T) (hi3 : i < T.kids.length) (hcl : T.cuts.length + 1 = T.kids.length) (h3 : T.kids.length ≤ 4) (hab0 : 0 ≤ ab) (hab : ab ≤ 7) :
  Calls Tryz.prog 157 #[placedV kd lo hi ab x, .int .i64 i] w fun e w' => ∃ y : TV, e = .returned (placedV (kindN (kidT T i)) (fromT T lo i) (toT T hi i) (ab + 1) y) ∧ TreeAt n w y (kidT T i) ∧ Below w.heap.size w w' := by
 obtain ⟨lf, p, c, k, b⟩ := x
 obtain ⟨-, hp, hc, hb, hk⟩ := ht.parts
 simp only at hp hc hb hk
 obtain ⟨a1, q1, rfl, -⟩ := hp.len
 obtain ⟨a4, q4, rfl, -⟩ := hb.len
 obtain ⟨a2, b2, off2, q2, rfl, hcap2, hmax2, ha2, cc⟩ := hc.ints
 obtain ⟨xs, hxl, hrow, hkt⟩ := hk
 obtain ⟨a3, b3, off3, q3, he3, hcap3, hmax3, ha3, c0, c1, c2, c3, c4⟩ := hrow.trees
 rw [hxl] at he3 hcap3 ha3 c0 c1 c2 c3 c4 hkt
 subst he3
 unfold maxLen at hmax2 hmax3
 have TT : TreeAt n w (tvAt xs i) (kidT T i) := hkt i hi3
 obtain ⟨r1, r2, r3, r4, s1, s2, s3, s4, hy⟩ := TT.shape
 have d0 := c0 i hi3
 have d1 := c1 i hi3
 have d2 := c2 i hi3
 have d3 := c3 i hi3
 have d4 := c4 i hi3
 rw [hy] at TT d0 d1 d2 d3 d4
 simp only at d0 d1 d2 d3 d4
 have TH : Hid _ := TT
 have KN : Hid (∀ w0, Below w.heap.size w w0 → Calls Tryz.prog 147 #[.agg #[.bool (kidT T i).leaf, .slice r1 (kidT T i).pairs.length s1, .slice r2 (kidT T i).cuts.length s2, .slice r3 (kidT T i).kids.length s3, .slice r4 (kidT T i).buf.length s4]] w0 fun e w' => e = .returned (.int .i64 (kindN (kidT T i))) ∧ Below w0.heap.size w0 w') := fun w0 hb => kindOf_any n ⟨_, _, _, _, _⟩ (kidT T i) w0 (TT.below hb)
 clear TT c0 c1 c2 c3 c4 hkt hxl hrow hp hc hb ht hy
 have hal := ha3 (by omega)
 subst hal
 clear ha3
 have bl3 := cell_lt d0
 generalize kindN (kidT T i) = KD at *
 generalize (kidT T i).leaf = z0 at *
 generalize (kidT T i).pairs.length = z1 at *
 generalize (kidT T i).cuts.length = z2 at *
 generalize (kidT T i).kids.length = z3 at *
 generalize (kidT T i).buf.length = z4 at *
 have F0 : Hid (i = 0 → fromT T lo i = lo) := fun h => by rw [fromT, if_pos h]
 have F1 : Hid (∀ j, i = j + 1 → fromT T lo i = iAt T.cuts j) := fun j h => by rw [fromT, if_neg (by omega), h]; rfl
 have F2 : Hid (i < T.cuts.length → toT T hi i = iAt T.cuts i) := fun h => by rw [toT, if_pos h]
 have F3 : Hid (¬ i < T.cuts.length → toT T hi i = hi) := fun h => by rw [toT, if_neg h]
 generalize fromT T lo i = FR at *
 generalize toT T hi i = TO at *
 generalize T.cuts.length = n2 at *
 generalize T.kids.length = n3 at *
 generalize T.pairs.length = n1 at *
 generalize T.buf.length = n4 at *
 show Calls Tryz.prog 157 #[.agg #[.int .i64 kd, .int .i64 lo, .int .i64 hi, .int .i64 ab, .bool lf, .slice a1 n1 q1, .slice a2 n2 q2, .slice (some ⟨b3, off3, none⟩) n3 q3, .slice a4 n4 q4], .int .i64 i] w _
 go_enter Tryz.func157, Tryz.ntmps157
 go_wp2_with fail
 go_quiet (fail)
 go_upto_region 2 with fail
 refine wp_gen (fun W => BoxAt 180 W w.heap.size #[.int .i64 kd, .int .i64 lo, .int .i64 hi, .int .i64 ab, .bool lf, .slice a1 n1 q1, .slice a2 n2 q2, .slice (some ⟨b3, off3, none⟩) n3 q3, .slice a4 n4 q4] ∧ BoxAt 180 W (w.heap.size + 1) #[.int .i64 0, .int .i64 0, .int .i64 0, .int .i64 0, .bool false, .slice none 0 0, .slice none 0 0, .slice none 0 0, .slice none 0 0] ∧ W.heap.size = w.heap.size + 1 + 1 ∧ Below w.heap.size w W) ⟨?_, ?_, ?_, below_drewN (((Below.refl _ _).alloc (Nat.le_refl _) _).alloc (by simp) _) _⟩ ?_
 ·exact (BoxAt.start 180 w _).step ((below_drewN ((Below.refl _ _).alloc (Nat.le_refl _) _) _))
 ·exact (show BoxAt 180 ((w.alloc _).alloc _) (w.heap.size + 1) _ from BoxAt.second 180 180 w _ _).step (below_drewN (Below.refl _ _) _)
 ·simp
 rintro W ⟨SA, SZ, hsz, BW⟩
 have k0 := SA.cells
 have e0 := (BW.cell (by exact cell_lt d0)).trans d0
 have e1 := (BW.cell (by exact cell_lt d1)).trans d1
 have e2 := (BW.cell (by exact cell_lt d2)).trans d2
 have e3 := (BW.cell (by exact cell_lt d3)).trans d3
 have e4 := (BW.cell (by exact cell_lt d4)).trans d4
 have CW : Hid (∀ j, j < n2 → W.cell? ⟨b2, off2 + j, none⟩ = some (.int .i64 (iAt T.cuts j))) := fun j hj => (BW.cell (by exact cell_lt (cc j hj))).trans (cc j hj)
 have A2 : Hid (0 < n2 → a2 = some ⟨b2, off2, none⟩) := ha2
 have SA' : Hid (BoxAt 180 W w.heap.size #[.int .i64 kd, .int .i64 lo, .int .i64 hi, .int .i64 ab, .bool lf, .slice a1 n1 q1, .slice a2 n2 q2, .slice (some ⟨b3, off3, none⟩) n3 q3, .slice a4 n4 q4]) := SA
 have SZ' : Hid (BoxAt 180 W (w.heap.size + 1) #[.int .i64 0, .int .i64 0, .int .i64 0, .int .i64 0, .bool false, .slice none 0 0, .slice none 0 0, .slice none 0 0, .slice none 0 0]) := SZ
 have BW' : Hid (Below w.heap.size w W) := BW
 have HS : Hid (W.heap.size = w.heap.size + 1 + 1) := hsz
 clear SA SZ BW d0 d1 d2 d3 d4 cc ha2 bl3 hsz
 go_upto_if 15 with fail
 go_cut [5] (fun s wx => s = .int .i64 FR ∧ wx = W)
 case first =>
  cases i with
  | zero =>
   have E1 := F0.out rfl
   subst E1
   go_wp2
   go_meet
   case rel => exact ⟨rfl, rfl⟩
  | succ i =>
   have E1 := F1.out i rfl
   have hal := A2.out (by omega)
   subst hal
   have dc := CW.out i (by omega)
   subst E1
   have hpos : (0 : Int) < ((i + 1 : Nat) : Int) := by omega
   have hpos2 : 0 < i + 1 := by omega
   have hin : i < n2 := by omega
   have hwk : IntKind.i64.wrap (i : Int) = (i : Int) := by rw [IntKind.wrap_i64]; omega
   go_wp2
   go_meet
   case rel => exact ⟨rfl, rfl⟩
 case rest =>
 obtain ⟨rfl, hw⟩ := hcut
 rw [hw]
 clear hw wc
 go_upto_if 28 with fail
 go_cut [6] (fun s wx => s = .int .i64 TO ∧ wx = W)
 case first =>
  by_cases hl2 : i < n2
  ·have E2 := F2.out hl2
   have hal := A2.out (by omega)
   subst hal
   have dc := CW.out i hl2
   subst E2
   go_wp2
   go_meet
   case rel => exact ⟨rfl, rfl⟩
  ·have E2 := F3.out hl2
   subst E2
   go_wp2
   go_meet
   case rel => exact ⟨rfl, rfl⟩
 case rest =>
 obtain ⟨rfl, hw⟩ := hcut
 rw [hw]
 clear hw wc CW A2 F0 F1 F2 F3
 have hsz := HS.out
 go_wp2_with fail
 refine wp_gen (fun V => ThreeAt V w.heap.size #[.int .i64 kd, .int .i64 lo, .int .i64 hi, .int .i64 ab, .bool lf, .slice a1 n1 q1, .slice a2 n2 q2, .slice (some ⟨b3, off3, none⟩) n3 q3, .slice a4 n4 q4] #[.int .i64 0, .int .i64 0, .int .i64 0, .int .i64 0, .bool false, .slice none 0 0, .slice none 0 0, .slice none 0 0, .slice none 0 0] #[.bool z0, .slice r1 z1 s1, .slice r2 z2 s2, .slice r3 z3 s3, .slice r4 z4 s4] ∧ Below w.heap.size w V) ⟨?_, ?_⟩ ?_
 ·refine ⟨?_, ?_, ?_⟩
  ·exact (bel_new W _).block _ (by omega) |>.trans SA'.out
  ·exact (bel_new W _).block _ (by omega) |>.trans SZ'.out
  ·rw [← hsz]; exact heap_alloc_new W _
 ·exact BW'.out.alloc (by omega) _
 rintro V ⟨SW, BW⟩
 clear hsz
 clear k0 e0 e1 e2 e3 e4 SA' SZ' BW' HS
 obtain ⟨k0, k1, k2, k3⟩ := SW.cells
 have SW' : Hid (ThreeAt V w.heap.size #[.int .i64 kd, .int .i64 lo, .int .i64 hi, .int .i64 ab, .bool lf, .slice a1 n1 q1, .slice a2 n2 q2, .slice (some ⟨b3, off3, none⟩) n3 q3, .slice a4 n4 q4] #[.int .i64 0, .int .i64 0, .int .i64 0, .int .i64 0, .bool false, .slice none 0 0, .slice none 0 0, .slice none 0 0, .slice none 0 0] #[.bool z0, .slice r1 z1 s1, .slice r2 z2 s2, .slice r3 z3 s3, .slice r4 z4 s4]) := SW
 have BW' : Hid (Below w.heap.size w V) := BW
 clear SW BW
 go_region_with (go_at_call 147; refine (KN.out _ BW'.out.drew).mono ?_; rintro e w1 ⟨rfl, hb1⟩; have SS := SW'.out.step (Below.and (Below.refl _ _).drew hb1); clear k0 k1 k2 k3; obtain ⟨k0, k1, k2, k3⟩ := SS.cells)
 all_goals
  have B1 : Hid (Below w.heap.size w w1) := Below.and BW'.out.drew hb1
  have hwr : IntKind.i64.wrap (ab + 1) = ab + 1 := by rw [IntKind.wrap_i64]; omega
  go_wp2
  refine bodyPost_ret (v := .agg #[.int .i64 KD, .int .i64 FR, .int .i64 TO, .int .i64 (ab + 1), .bool z0, .slice r1 z1 s1, .slice r2 z2 s2, .slice r3 z3 s3, .slice r4 z4 s4]) (by simp [results, Tryz.results157, go_sem, k1, hwr]) rfl ⟨⟨z0, .slice r1 z1 s1, .slice r2 z2 s2, .slice r3 z3 s3, .slice r4 z4 s4⟩, rfl, TH.out, ?_⟩
  repeat (refine Below.setCell ?_ (by simp only []; omega) _)
  exact B1.out
end
end Go.Proofs.YtmdajbbpigbdcaaGreat
