/-
  The program's NodeOk.
  The program's NodeOk: the role.
-/
import Derived.Test.YtmdajbbpigbdcaaGreatOfFeed27
import Derived.Test.YtmdajbbpigbdcaaGreatOfFeed7
import Derived.Laws.EntriesVeiled
import Derived.Deep.MidRow
namespace Go.Proofs.YtmdajbbpigbdcaaGreat
set_option maxRecDepth 100000
set_option maxHeartbeats 8000000
section
open Go.RowKit

theorem sizeOk_any (x : Int) (w : World) : Calls Tryz.prog 68 #[.int .i64 x] w fun e w' => e = .returned (.bool (inB x 1 5)) ∧ w' = w := by
 by_cases h1 : 1 ≤ x
 ·by_cases h2 : x ≤ 5
  ·have E : Hid (inB x 1 5 = true) := inB_true h1 h2
   go_enter Tryz.func68, Tryz.ntmps68
   go_wp2
   go_ret
   exact ⟨ret_bool E.out.symm, rfl⟩
  ·have E : Hid (inB x 1 5 = false) := inB_false2 h2
   go_enter Tryz.func68, Tryz.ntmps68
   go_wp2
   go_ret
   exact ⟨ret_bool E.out.symm, rfl⟩
 ·have E : Hid (inB x 1 5 = false) := inB_false1 h1
  go_enter Tryz.func68, Tryz.ntmps68
  go_wp2
  go_ret
  exact ⟨ret_bool E.out.symm, rfl⟩
theorem isOneOf_any (x y : Int) (w : World) : Calls Tryz.prog 69 #[.int .i64 x, .int .i64 y] w fun e w' => e = .returned (.bool (inB x 0 (y - 1))) ∧ w' = w := by
 by_cases h1 : 0 ≤ x
 ·by_cases h2 : x < y
  ·have E : Hid (inB x 0 (y - 1) = true) := inB_true h1 (by omega)
   go_enter Tryz.func69, Tryz.ntmps69
   go_wp2
   go_ret
   exact ⟨ret_bool E.out.symm, rfl⟩
  ·have E : Hid (inB x 0 (y - 1) = false) := inB_false2 (by omega)
   go_enter Tryz.func69, Tryz.ntmps69
   go_wp2
   go_ret
   exact ⟨ret_bool E.out.symm, rfl⟩
 ·have E : Hid (inB x 0 (y - 1) = false) := inB_false1 h1
  go_enter Tryz.func69, Tryz.ntmps69
  go_wp2
  go_ret
  exact ⟨ret_bool E.out.symm, rfl⟩
theorem voteOk_any (x y : Int) (w : World) (hy : 1 ≤ y) : Calls Tryz.prog 71 #[.int .i64 x, .int .i64 y] w fun e w' => e = .returned (.bool (inB x (-1) (y - 1))) ∧ w' = w := by
 by_cases h1 : x = -1
 ·have E : Hid (inB x (-1) (y - 1) = true) := inB_true (by omega) (by omega)
  have h1b : (x == -1) = true := by simp [h1]
  clear h1
  go_enter Tryz.func71, Tryz.ntmps71
  go_wp2
  go_ret
  exact ⟨ret_bool E.out.symm, rfl⟩
 ·have E : Hid (inB x (-1) (y - 1) = inB x 0 (y - 1)) := by
   show _ = _
   unfold inB
   congr 1
   simp only [eq_iff_iff]
   omega
  have h1b : (x == -1) = false := by simp [h1]
  clear h1
  go_enter Tryz.func71, Tryz.ntmps71
  go_wp2_with fail
  refine (isOneOf_any _ _ _).mono ?_
  rintro e w1 ⟨rfl, hw1⟩
  subst hw1
  go_wp2
  go_ret
  exact ⟨ret_bool E.out.symm, rfl⟩

theorem allWithin_any (v : Value) (l : List Int) (lo hi : Int) (w : World) (h : Row w v l.length (flatI l)) : Calls Tryz.prog 102 #[v, .int .i64 lo, .int .i64 hi] w fun e w' => e = .returned (.bool (allIn l lo hi)) ∧ w' = w := by
 obtain ⟨a, b, off, cap, rfl, hcap, hmax, ha, hx⟩ := h.ints
 unfold maxLen at hmax
 clear h
 go_enter Tryz.func102, Tryz.ntmps102
 go_wp2
 go_loopw [11] (fun i wr => ∃ k : Nat, k ≤ l.length ∧ i = .int .i64 k ∧ wr = w ∧ Hid (∀ j, j < k → inB (iAt l j) lo hi = true))
  (fun i _ => l.length - (intOf i).toNat)
 case atStart => exact ⟨0, Nat.zero_le _, rfl, rfl, fun j hj => absurd hj (Nat.not_lt_zero _)⟩
 case round =>
  obtain ⟨k, hk, rfl, hwr, ALL⟩ := hrel
  subst hwr
  by_cases hlt : k < l.length
  ·have hal := ha (by omega)
   subst hal
   have d1 := hx k hlt
   have F1 : Hid (inB (iAt l k) lo hi = false → allIn l lo hi = false) := fun h => allIn_false hlt h
   generalize hxx : iAt l k = x at *
   have HX : Hid _ := hxx
   clear hxx hx ha
   by_cases h1 : x < lo
   ·have E : Hid (allIn l lo hi = false) := F1.out (inB_false1 (by omega))
    go_wp2
    go_ret
    exact ⟨ret_bool E.out.symm, rfl⟩
   ·by_cases h2 : hi < x
    ·have E : Hid (allIn l lo hi = false) := F1.out (inB_false2 (by omega))
     go_wp2
     go_ret
     exact ⟨ret_bool E.out.symm, rfl⟩
    ·have A2 : Hid (∀ j, j < k + 1 → inB (iAt l j) lo hi = true) := fun j hj => by
      by_cases hjk : j < k
      ·exact ALL.out j hjk
      ·have : j = k := by omega
       subst this
       rw [HX.out]
       exact inB_true (by omega) (by omega)
     go_wp2
     go_roundw
     case rel => exact ⟨k + 1, by omega, by go_num, (by first | rfl | trivial), A2⟩
     case measure => simp [intOf]; omega
  ·have E : Hid (allIn l lo hi = true) := allIn_true (fun i hi => ALL.out i (by omega))
   clear hx ha
   go_wp2
   go_ret
   exact ⟨ret_bool E.out.symm, rfl⟩

theorem follows_any (N : NodV) (w : World) : Calls Tryz.prog 100 #[N.val] w fun e w' => e = .returned (.bool (N.ro == 0)) ∧ Below w.heap.size w w' := by
 obtain ⟨id, te, vo, lb, lt, lv, ⟨⟨sl, sp, sc, sk, sb⟩, sv⟩, ro, vv, nv, mv, cm, ⟨⟨ol, op, oc, ok, ob⟩, ov⟩⟩ := N
 have N1 : Hid (MBox 50 (w.alloc (.cells #[.int .i64 id, .int .i64 te, .int .i64 vo, .int .i64 lb, .int .i64 lt, lv, .bool sl, sp, sc, sk, sb, sv, .int .i64 ro, vv, nv, mv, .int .i64 cm, .bool ol, op, oc, ok, ob, ov] 50)) w.heap.size #[.int .i64 id, .int .i64 te, .int .i64 vo, .int .i64 lb, .int .i64 lt, lv, .bool sl, sp, sc, sk, sb, sv, .int .i64 ro, vv, nv, mv, .int .i64 cm, .bool ol, op, oc, ok, ob, ov]) := MBox.start _ w _
 have B1 : Hid (Below w.heap.size w (w.alloc (.cells #[.int .i64 id, .int .i64 te, .int .i64 vo, .int .i64 lb, .int .i64 lt, lv, .bool sl, sp, sc, sk, sb, sv, .int .i64 ro, vv, nv, mv, .int .i64 cm, .bool ol, op, oc, ok, ob, ov] 50))) := bel_nw _ _
 have c1 := N1.out.cells
 show Calls Tryz.prog 100 #[.agg #[.int .i64 id, .int .i64 te, .int .i64 vo, .int .i64 lb, .int .i64 lt, lv, .bool sl, sp, sc, sk, sb, sv, .int .i64 ro, vv, nv, mv, .int .i64 cm, .bool ol, op, oc, ok, ob, ov]] w _
 go_enter Tryz.func100, Tryz.ntmps100
 go_wp2
 go_ret
 exact ⟨rfl, B1.out⟩
theorem stands_any (N : NodV) (w : World) : Calls Tryz.prog 101 #[N.val] w fun e w' => e = .returned (.bool (N.ro == 1)) ∧ Below w.heap.size w w' := by
 obtain ⟨id, te, vo, lb, lt, lv, ⟨⟨sl, sp, sc, sk, sb⟩, sv⟩, ro, vv, nv, mv, cm, ⟨⟨ol, op, oc, ok, ob⟩, ov⟩⟩ := N
 have N1 : Hid (MBox 50 (w.alloc (.cells #[.int .i64 id, .int .i64 te, .int .i64 vo, .int .i64 lb, .int .i64 lt, lv, .bool sl, sp, sc, sk, sb, sv, .int .i64 ro, vv, nv, mv, .int .i64 cm, .bool ol, op, oc, ok, ob, ov] 50)) w.heap.size #[.int .i64 id, .int .i64 te, .int .i64 vo, .int .i64 lb, .int .i64 lt, lv, .bool sl, sp, sc, sk, sb, sv, .int .i64 ro, vv, nv, mv, .int .i64 cm, .bool ol, op, oc, ok, ob, ov]) := MBox.start _ w _
 have B1 : Hid (Below w.heap.size w (w.alloc (.cells #[.int .i64 id, .int .i64 te, .int .i64 vo, .int .i64 lb, .int .i64 lt, lv, .bool sl, sp, sc, sk, sb, sv, .int .i64 ro, vv, nv, mv, .int .i64 cm, .bool ol, op, oc, ok, ob, ov] 50))) := bel_nw _ _
 have c1 := N1.out.cells
 show Calls Tryz.prog 101 #[.agg #[.int .i64 id, .int .i64 te, .int .i64 vo, .int .i64 lb, .int .i64 lt, lv, .bool sl, sp, sc, sk, sb, sv, .int .i64 ro, vv, nv, mv, .int .i64 cm, .bool ol, op, oc, ok, ob, ov]] w _
 go_enter Tryz.func101, Tryz.ntmps101
 go_wp2
 go_ret
 exact ⟨rfl, B1.out⟩
theorem leads_any (N : NodV) (w : World) : Calls Tryz.prog 47 #[N.val] w fun e w' => e = .returned (.bool (N.ro == 2)) ∧ Below w.heap.size w w' := by
 obtain ⟨id, te, vo, lb, lt, lv, ⟨⟨sl, sp, sc, sk, sb⟩, sv⟩, ro, vv, nv, mv, cm, ⟨⟨ol, op, oc, ok, ob⟩, ov⟩⟩ := N
 have N1 : Hid (MBox 50 (w.alloc (.cells #[.int .i64 id, .int .i64 te, .int .i64 vo, .int .i64 lb, .int .i64 lt, lv, .bool sl, sp, sc, sk, sb, sv, .int .i64 ro, vv, nv, mv, .int .i64 cm, .bool ol, op, oc, ok, ob, ov] 50)) w.heap.size #[.int .i64 id, .int .i64 te, .int .i64 vo, .int .i64 lb, .int .i64 lt, lv, .bool sl, sp, sc, sk, sb, sv, .int .i64 ro, vv, nv, mv, .int .i64 cm, .bool ol, op, oc, ok, ob, ov]) := MBox.start _ w _
 have B1 : Hid (Below w.heap.size w (w.alloc (.cells #[.int .i64 id, .int .i64 te, .int .i64 vo, .int .i64 lb, .int .i64 lt, lv, .bool sl, sp, sc, sk, sb, sv, .int .i64 ro, vv, nv, mv, .int .i64 cm, .bool ol, op, oc, ok, ob, ov] 50))) := bel_nw _ _
 have c1 := N1.out.cells
 show Calls Tryz.prog 47 #[.agg #[.int .i64 id, .int .i64 te, .int .i64 vo, .int .i64 lb, .int .i64 lt, lv, .bool sl, sp, sc, sk, sb, sv, .int .i64 ro, vv, nv, mv, .int .i64 cm, .bool ol, op, oc, ok, ob, ov]] w _
 go_enter Tryz.func47, Tryz.ntmps47
 go_wp2
 go_ret
 exact ⟨rfl, B1.out⟩
end
section
open Go.RowKit

theorem Tryz.uF3 : Tryz.prog.underlying 141 = some (.array 3 85) := by kernel_rfl
theorem index_fn (f0 f1 f2 : Value) (k : Nat) (f : Value) (hk : (#[f0, f1, f2] : Array Value)[k]? = some f) (u : World) : (Instr.index 141 (.agg #[f0, f1, f2]) (.int .i64 k)).run Tryz.prog u = .ok f u := by
 have hlt : k < 3 := by have := (Array.getElem?_eq_some_iff.1 hk).1; simpa using this
 have ha : (isAgg 85).run Tryz.prog u = .ok false u := by
  unfold isAgg
  rw [Sem.run_bind, run_underlying Tryz.underlying85 u]
  simp
 have hp : (part 85 #[f0, f1, f2] k).run Tryz.prog u = .ok f u := by
  unfold part
  rw [Sem.run_bind, ha]
  simp only [Result.andThen_ok, Bool.false_eq_true, if_false, hk]
  simp
 unfold Instr.index
 rw [Sem.run_bind]
 simp [asIntOf, run_underlying Tryz.uF3, hp]
 intro h
 omega

theorem roleOk_any (N : NodV) (w : World) : Calls Tryz.prog 72 #[N.val] w fun e w' => e = .returned (.bool (inB N.ro 0 2)) ∧ Below w.heap.size w w' := by
 have E : Hid (inB N.ro 0 2 = ((N.ro == 0) || ((N.ro == 1) || (N.ro == 2)))) := by
  show _ = _
  unfold inB
  by_cases h0 : N.ro = 0
  ·simp [h0]
  ·by_cases h1 : N.ro = 1
   ·simp [h1]
   ·by_cases h2 : N.ro = 2
    ·simp [h2]
    ·rw [beq_eq_false_iff_ne.2 h0, beq_eq_false_iff_ne.2 h1, beq_eq_false_iff_ne.2 h2]
     simp only [Bool.or_false, decide_eq_false_iff_not]
     omega
 have K0 : Hid (∀ u, Calls Tryz.prog 100 #[N.val] u fun e w' => e = .returned (.bool (N.ro == 0)) ∧ Below u.heap.size u w') := fun u => follows_any N u
 have K1 : Hid (∀ u, Calls Tryz.prog 101 #[N.val] u fun e w' => e = .returned (.bool (N.ro == 1)) ∧ Below u.heap.size u w') := fun u => stands_any N u
 have K2 : Hid (∀ u, Calls Tryz.prog 47 #[N.val] u fun e w' => e = .returned (.bool (N.ro == 2)) ∧ Below u.heap.size u w') := fun u => leads_any N u
 generalize inB N.ro 0 2 = bb at *
 generalize (N.ro == 0) = b0 at *
 generalize (N.ro == 1) = b1 at *
 generalize (N.ro == 2) = b2 at *
 obtain ⟨id, te, vo, lb, lt, lv, ⟨⟨sl, sp, sc, sk, sb⟩, sv⟩, ro, vv, nv, mv, cm, ⟨⟨ol, op, oc, ok, ob⟩, ov⟩⟩ := N
 simp only [NodV.val] at K0 K1 K2
 have RG : Hid (World.rangeAt (w.alloc (.cells #[.int .i64 id, .int .i64 te, .int .i64 vo, .int .i64 lb, .int .i64 lt, lv, .bool sl, sp, sc, sk, sb, sv, .int .i64 ro, vv, nv, mv, .int .i64 cm, .bool ol, op, oc, ok, ob, ov] 50)) w.heap.size 0 [.int .i64 id, .int .i64 te, .int .i64 vo, .int .i64 lb, .int .i64 lt, lv, .bool sl, sp, sc, sk, sb, sv, .int .i64 ro, vv, nv, mv, .int .i64 cm, .bool ol, op, oc, ok, ob, ov]) := range_of (MBox.start 50 w #[.int .i64 id, .int .i64 te, .int .i64 vo, .int .i64 lb, .int .i64 lt, lv, .bool sl, sp, sc, sk, sb, sv, .int .i64 ro, vv, nv, mv, .int .i64 cm, .bool ol, op, oc, ok, ob, ov])
 have HI : Hid ((Tryz.prog.info? 50).map (·.size) = some (List.length [.int .i64 id, .int .i64 te, .int .i64 vo, .int .i64 lb, .int .i64 lt, lv, .bool sl, sp, sc, sk, sb, sv, .int .i64 ro, vv, nv, mv, .int .i64 cm, .bool ol, op, oc, ok, ob, ov])) := (show (Tryz.prog.info? 50).map (·.size) = some 23 by kernel_rfl)
 have B1 : Hid (Below w.heap.size w (w.alloc (.cells #[.int .i64 id, .int .i64 te, .int .i64 vo, .int .i64 lb, .int .i64 lt, lv, .bool sl, sp, sc, sk, sb, sv, .int .i64 ro, vv, nv, mv, .int .i64 cm, .bool ol, op, oc, ok, ob, ov] 50))) := bel_nw _ _
 show Calls Tryz.prog 72 #[.agg #[.int .i64 id, .int .i64 te, .int .i64 vo, .int .i64 lb, .int .i64 lt, lv, .bool sl, sp, sc, sk, sb, sv, .int .i64 ro, vv, nv, mv, .int .i64 cm, .bool ol, op, oc, ok, ob, ov]] w _
 go_enter Tryz.func72, Tryz.ntmps72
 go_upto_region 1 with fail
 generalize w.alloc (.cells #[.int .i64 id, .int .i64 te, .int .i64 vo, .int .i64 lb, .int .i64 lt, lv, .bool sl, sp, sc, sk, sb, sv, .int .i64 ro, vv, nv, mv, .int .i64 cm, .bool ol, op, oc, ok, ob, ov] 50) = W at *
 generalize ([.int .i64 id, .int .i64 te, .int .i64 vo, .int .i64 lb, .int .i64 lt, lv, .bool sl, sp, sc, sk, sb, sv, .int .i64 ro, vv, nv, mv, .int .i64 cm, .bool ol, op, oc, ok, ob, ov] : List Value) = cs at *
 go_wp2_with (refine wpList_load_mid rfl 50 _ rfl w.heap.size 0 rfl cs _ RG.out Tryz.underlying50 rfl HI.out ?_)
 clear RG HI
 generalize Value.agg cs.toArray = NV at *
 have B2 : Hid (Below w.heap.size w (W.alloc (.cells #[.func (.func 100) #[NV] #[], .func (.func 101) #[NV] #[], .func (.func 47) #[NV] #[]] 141))) := Below.and B1.out (bel_nw _ _)
 generalize W.alloc (.cells #[.func (.func 100) #[NV] #[], .func (.func 101) #[NV] #[], .func (.func 47) #[NV] #[]] 141) = W2 at *
 go_loopw [14] (fun i wr => ∃ k : Nat, k ≤ 3 ∧ i = .int .i64 k ∧ Hid (Below w.heap.size w wr) ∧ Hid ((k = 0 → bb = (b0 || (b1 || b2))) ∧ (k = 1 → bb = (b1 || b2)) ∧ (k = 2 → bb = b2) ∧ (k = 3 → bb = false)))
  (fun i _ => 3 - (intOf i).toNat)
 case atStart => exact ⟨0, by omega, rfl, B2.out, fun _ => E.out, fun h => by omega, fun h => by omega, fun h => by omega⟩
 case round =>
  obtain ⟨k, hk, rfl, BW, RE⟩ := hrel
  rcases (show k = 0 ∨ k = 1 ∨ k = 2 ∨ k = 3 by omega) with h | h | h | h
  ·subst h
   have R0 : Hid (bb = (b0 || (b1 || b2))) := RE.out.1 rfl
   clear RE hk
   have ix : (Instr.index 141 (.agg #[.func (.func 100) #[NV] #[], .func (.func 101) #[NV] #[], .func (.func 47) #[NV] #[]]) (.int .i64 0)).run Tryz.prog wr = .ok (.func (.func 100) #[NV] #[]) wr := index_fn _ _ _ 0 _ rfl wr
   go_wp2_with fail
   refine (K0.out _).mono ?_
   rintro e w1 ⟨rfl, h1⟩
   replace BW : Hid (Below w.heap.size w w1) := Below.and BW.out h1
   clear h1
   cases hb : b0
   ·have R2 : Hid (bb = (b1 || b2)) := by show _ = _; have := R0.out; rw [hb] at this; simpa using this
    go_wp2
    go_roundw
    case rel => exact ⟨0 + 1, by omega, by go_num, BW.out, ⟨fun h => by omega, fun _ => R2.out, fun h => by omega, fun h => by omega⟩⟩
    case measure => simp [intOf]
   ·have R2 : Hid (bb = true) := by show _ = _; have := R0.out; rw [hb] at this; simpa using this
    go_wp2
    go_ret
    exact ⟨ret_bool R2.out.symm, BW.out⟩
  ·subst h
   have R0 : Hid (bb = (b1 || b2)) := RE.out.2.1 rfl
   clear RE hk
   have ix : (Instr.index 141 (.agg #[.func (.func 100) #[NV] #[], .func (.func 101) #[NV] #[], .func (.func 47) #[NV] #[]]) (.int .i64 1)).run Tryz.prog wr = .ok (.func (.func 101) #[NV] #[]) wr := index_fn _ _ _ 1 _ rfl wr
   go_wp2_with fail
   refine (K1.out _).mono ?_
   rintro e w1 ⟨rfl, h1⟩
   replace BW : Hid (Below w.heap.size w w1) := Below.and BW.out h1
   clear h1
   cases hb : b1
   ·have R2 : Hid (bb = b2) := by show _ = _; have := R0.out; rw [hb] at this; simpa using this
    go_wp2
    go_roundw
    case rel => exact ⟨1 + 1, by omega, by go_num, BW.out, ⟨fun h => by omega, fun h => by omega, fun _ => R2.out, fun h => by omega⟩⟩
    case measure => simp [intOf]
   ·have R2 : Hid (bb = true) := by show _ = _; have := R0.out; rw [hb] at this; simpa using this
    go_wp2
    go_ret
    exact ⟨ret_bool R2.out.symm, BW.out⟩
  ·subst h
   have R0 : Hid (bb = b2) := RE.out.2.2.1 rfl
   clear RE hk
   have ix : (Instr.index 141 (.agg #[.func (.func 100) #[NV] #[], .func (.func 101) #[NV] #[], .func (.func 47) #[NV] #[]]) (.int .i64 2)).run Tryz.prog wr = .ok (.func (.func 47) #[NV] #[]) wr := index_fn _ _ _ 2 _ rfl wr
   go_wp2_with fail
   refine (K2.out _).mono ?_
   rintro e w1 ⟨rfl, h1⟩
   replace BW : Hid (Below w.heap.size w w1) := Below.and BW.out h1
   clear h1
   cases hb : b2
   ·have R2 : Hid (bb = false) := by show _ = _; have := R0.out; rw [hb] at this; simpa using this
    go_wp2
    go_roundw
    case rel => exact ⟨2 + 1, by omega, by go_num, BW.out, ⟨fun h => by omega, fun h => by omega, fun h => by omega, fun _ => R2.out⟩⟩
    case measure => simp [intOf]
   ·have R2 : Hid (bb = true) := by show _ = _; have := R0.out; rw [hb] at this; simpa using this
    go_wp2
    go_ret
    exact ⟨ret_bool R2.out.symm, BW.out⟩
  ·subst h
   have R2 : Hid (bb = false) := RE.out.2.2.2 rfl
   go_wp2
   go_ret
   exact ⟨ret_bool R2.out.symm, BW.out⟩
end
end Go.Proofs.YtmdajbbpigbdcaaGreat
