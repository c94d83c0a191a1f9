/-
  FirstOf: the program's, at any world.
  The law of FirstOf at any world.
  What an argument that is a list of pairs holds: opened once into a row of cells.
  What an argument that is a message, or a list of messages, holds.
-/
import Derived.Test.YthfmifdpldmbaaaOfFirst15
import Derived.Test.YthfmifdpldmbaaaOfFirst11
import Derived.Test.YthfmifdpldmbaaaOfFirst12
import Derived.Laws.StructEq
import Derived.BigQuiet
import Derived.Deep.QuietTactic
import Derived.Test.YthfmifdpldmbaaaOfFirst1
import Derived.ProofKit
import Derived.Deep.SlicePairs
import Derived.Test.YthfmifdpldmbaaaOfFirst2
import Derived.Lib.SmallJoins
namespace Go.Proofs.Ythfmifdpldmbaaa
set_option maxRecDepth 100000
set_option maxHeartbeats 8000000
section
open Go.RowKit

theorem wp_eql_by {P : Program} {o : Oper} {a : Act} {K : Act → World → Prop} {Q : Exit → Act → World → Prop} {w : World} (ty : TypeId) (x y : Operand) (t2 : TypeId) {v1 v2 v : Value} (ho : o.op = .binOp .eql ty x y t2) (hx : a.eval x = v1) (hy : a.eval y = v2) (hG : (eqGuard .eql ty x y v1 v2).run P w = .ok () w) (hr : ∀ u, (binOp .eql ty v1 v2).run P u = .ok v u) (h : K (a.put o.dst v) w) : o.wp P a w K Q := by
 unfold Oper.wp execOp
 simp only [ho, hx, hy]
 have hg : (eqGuard .eql ty x y v1 v2).run P w = .ok () w := hG
 simp only [Sem.run_bind, hg, hr, Result.andThen_ok, Sem.run_pure]
 exact h
theorem wp_asg_by {P : Program} {o : Oper} {a : Act} {K : Act → World → Prop} {Q : Exit → Act → World → Prop} {w : World} (x : Operand) (ho : o.op = .assign x) (h : K (a.put o.dst (a.eval x)) w) : o.wp P a w K Q := by
 unfold Oper.wp execOp
 simp only [ho]
 exact h
theorem askedBy_any (e : CmdE) (w : World) : Calls Try.prog 21 #[.agg (cmdC e).toArray] w fun x w' => x = .returned (.agg #[.int .i64 e.1, .int .i64 e.2.1]) ∧ Below w.heap.size w w' := by
 obtain ⟨a, b, c, d, f⟩ := e
 show Calls Try.prog 21 #[.agg #[.int .i64 a, .int .i64 b, .int .i64 c, .int .i64 d, .int .i64 f]] w _
 go_enter Try.func21, Try.ntmps21
 have B : Hid (Below w.heap.size w (((w.alloc (.cells #[.int .i64 a, .int .i64 b, .int .i64 c, .int .i64 d, .int .i64 f] 49)).alloc (.cells #[.int .i64 a, .int .i64 b] 57)))) := ((Below.refl _ _).alloc (Nat.le_refl _) _).alloc (by simp) _
 go_wp2_with fail
 simp [bodyPost, results, Try.results21, go_sem]
 exact B.out

theorem eqlA (a b c d : Int) (w : World) : (binOp .eql 57 (.agg #[.int .i64 a, .int .i64 b]) (.agg #[.int .i64 c, .int .i64 d])).run Try.prog w = .ok (.bool (decide (a = c ∧ b = d))) w := by
 have u3 := Try.underlying3
 have a3 := Try.isAgg3
 have z3 := Try.sizeOf3
 have hS : Try.prog.underlying 57 = some (.struct (Try.prog.fieldsOf 57)) := by kernel_rfl
 have hp : Try.prog.stoodInHeld 57 = false := by kernel_rfl
 rw [run_eql_struct, show (10000 : Nat) = 9999 + 1 from rfl, run_equalIn_agg w 9999 57 _ _ hS hp]
 simp only [Program.fieldsOf, Try.underlying57]
 go_simp
 by_cases h1 : a = c <;> by_cases h2 : b = d <;> simp [h1, h2]

theorem firstOf1_any (e : CmdE) (cl sq : Int) (X Y : Nat) (w : World) (hx : w.cell? ⟨X, 0, none⟩ = some (.int .i64 cl)) (hy : w.cell? ⟨Y, 0, none⟩ = some (.int .i64 sq)) :
  Calls Try.prog 20 #[.agg (cmdC e).toArray, .pointer (some ⟨X, 0, none⟩), .pointer (some ⟨Y, 0, none⟩)] w fun x w' => x = .returned (.bool (isC cl sq e)) ∧ Below w.heap.size w w' := by
 have EQ : Hid (∀ u, (binOp .eql 57 (.agg #[.int .i64 e.1, .int .i64 e.2.1]) (.agg #[.int .i64 cl, .int .i64 sq])).run Try.prog u = .ok (.bool (isC cl sq e)) u) := fun u => by
  rw [eqlA]
  simp [isC]
 have ASK := hq (fun u => askedBy_any e u)
 have B1 : Hid (Below w.heap.size w (w.alloc (.cells (cmdC e).toArray 49))) := bel_nw _ _
 have N1 := range_of (show (w.alloc (.cells (cmdC e).toArray 49)).heap[w.heap.size]? = some (.cells (cmdC e).toArray 49 (0, 0)) from heap_alloc_new w _)
 have X1 := (B1.out.cell (cell_lt hx)).trans hx
 have Y1 := (B1.out.cell (cell_lt hy)).trans hy
 have HI : Hid ((Try.prog.info? 49).map (·.size) = some (cmdC e).length) := (show (Try.prog.info? 49).map (·.size) = some 5 by kernel_rfl)
 clear hx hy
 generalize cmdC e = cs at *
 generalize isC cl sq e = r at *
 generalize e.1 = x1 at *
 generalize e.2.1 = x2 at *
 have KE : Hid (∀ u, Below (w.alloc (.cells cs.toArray 49)).heap.size (w.alloc (.cells cs.toArray 49)) u → u.rangeAt w.heap.size 0 cs ∧ u.cell? ⟨X, 0, none⟩ = some (.int .i64 cl) ∧ u.cell? ⟨Y, 0, none⟩ = some (.int .i64 sq)) := fun u hu => by
  refine ⟨fun j v hv => ?_, (hu.cell (cell_lt X1)).trans X1, (hu.cell (cell_lt Y1)).trans Y1⟩
  have := N1 j v (by simpa using hv)
  exact (hu.cell (cell_lt this)).trans this
 clear N1 X1 Y1
 go_enter Try.func20, Try.ntmps20
 go_upto_region 1 with fail
 generalize w.alloc (.cells cs.toArray 49) = V at *
 have RF := hq ((Below.refl V.heap.size V).drew)
 refine wp_region_held_drew (S := fun u => u.rangeAt w.heap.size 0 cs ∧ u.cell? ⟨X, 0, none⟩ = some (.int .i64 cl) ∧ u.cell? ⟨Y, 0, none⟩ = some (.int .i64 sq)) (by kernel_rfl) (KE.out _ RF.out) (fun hH => ?_)
 refine tk 0 (oi := ⟨_, _, _, _, _, _⟩) (v := .agg cs.toArray) rfl (by kernel_rfl) (fun _ _ _ h => h) (yieldsIf_load_mid rfl 49 _ rfl w.heap.size 0 rfl cs _ (fun u hu => hu.1) Try.underlying49 rfl HI.out) (KE.out _ RF.out) ?_
 try simp only [Act.put, sA, sB, sC]
 refine tk 2 (oi := ⟨_, _, _, _, _, _⟩) (v := ?_) rfl (by kernel_rfl) (fun _ _ _ h => h) (Or.inl ⟨by rfl, ?_⟩) (KE.out _ RF.out) ?_
 rotate_left
 ·(intro u hu; obtain ⟨s0, s1, s2⟩ := hu; go_simp)
  try with_reducible rfl
 try simp only [Act.put, sA, sB, sC]
 refine tk 3 (oi := ⟨_, _, _, _, _, _⟩) (v := ?_) rfl (by kernel_rfl) (fun _ _ _ h => h) (Or.inl ⟨by rfl, ?_⟩) (KE.out _ RF.out) ?_
 rotate_left
 ·(intro u hu; obtain ⟨s0, s1, s2⟩ := hu; go_simp)
  try with_reducible rfl
 try simp only [Act.put, sA, sB, sC]
 refine tk 4 (oi := ⟨_, _, _, _, _, _⟩) (v := ?_) rfl (by kernel_rfl) (fun _ _ _ h => h) (Or.inl ⟨by rfl, ?_⟩) (KE.out _ RF.out) ?_
 rotate_left
 ·(intro u hu; go_simp)
  try with_reducible rfl
 try simp only [Act.put, sA, sB, sC]
 refine wp_chain [(1, none), (5, none), (6, none)] rfl (by kernel_rfl) (fun u hu => KE.out u (Below.and RF.out hu)) ?_ ?_
 ·intro f g hf
  simp at hf
 refine CW.op (o := ⟨_, _, _, _, _, _⟩) rfl (fun u1 l1 K hK => ?_)
 have L1 := hq (Below.and RF.out l1)
 refine call_by 21 [.tmp 5] #[49] rfl (fun args w => by go_simp) [.agg cs.toArray] rfl (ASK.out u1) ?_
 rintro e x1 ⟨rfl, b1⟩
 refine ⟨_, rfl, hK.out _ _ b1 ?_⟩
 clear hK K
 have L2 := hq (Below.and L1.out b1)
 refine CW.op (o := ⟨_, _, _, _, _, _⟩) rfl (fun u2 l2 K hK => ?_)
 refine wp_eql_by 57 (.tmp 6) (.tmp 9) 57 rfl rfl rfl (by simp [eqGuard, go_sem]) EQ.out (hK.out _ _ (Ltr.refl _) ?_)
 clear hK K
 refine CW.op (o := ⟨_, _, _, _, _, _⟩) rfl (fun u3 l3 K hK => ?_)
 refine wp_asg_by (.tmp 10) rfl (hK.out _ _ (Ltr.refl _) ?_)
 clear hK K
 refine CW.done (fun u4 l4 => ?_)
 have FIN := hq (Below.and B1.out (Below.and L2.out (Below.and (Below.and l2 l3) l4)))
 clear l2 l3 l4
 go_wp2
 go_ret
 exact ⟨rfl, FIN.out⟩

theorem indexFunc_any (es : List CmdE) (a : Option Addr) (b off c : Nat) (cl sq : Int) (X Y : Nat) (w : World) (hm : es.length ≤ 9223372036854775807) (ha : 0 < es.length → a = some ⟨b, off, none⟩) (hr : ∀ u, Below w.heap.size w u → ∀ (i : Nat) (hi : i < es.length), u.rangeAt b (off + i * 5) (cmdC es[i]))
  (hx : w.cell? ⟨X, 0, none⟩ = some (.int .i64 cl)) (hy : w.cell? ⟨Y, 0, none⟩ = some (.int .i64 sq)) :
  Calls Try.prog 19 #[.slice a es.length c, .func (.func 20) #[] #[.pointer (some ⟨X, 0, none⟩), .pointer (some ⟨Y, 0, none⟩)]] w fun e w' => ∃ r : Int, e = .returned (.int .i64 r) ∧ FirstP cl sq es r ∧ Below w.heap.size w w' := by
 have CL := hq (fun (e : CmdE) u (hu : Below w.heap.size w u) => firstOf1_any e cl sq X Y u ((hu.cell (cell_lt hx)).trans hx) ((hu.cell (cell_lt hy)).trans hy))
 have RG := hq hr
 have HA := hq ha
 clear hr hx hy ha
 go_enter Try.func19, Try.ntmps19
 go_wp2
 go_loopw [5, 8] (fun _ i wr => ∃ k : Nat, k ≤ es.length ∧ i = .int .i64 k ∧ Hid (∀ i (hi : i < es.length), i < k → isC cl sq es[i] = false) ∧ Hid (Below w.heap.size w wr)) (fun _ i _ => es.length - (intOf i).toNat)
 case atStart => exact ⟨0, Nat.zero_le _, rfl, (fun i _ h => absurd h (Nat.not_lt_zero _)), Below.refl _ _⟩
 case round =>
  obtain ⟨k, hk, rfl, NO, BW⟩ := hrel
  by_cases hlt : k < es.length
  ·have hal := HA.out (by omega)
   subst hal
   have hi2 : (k : Int) < (es.length : Int) := by omega
   have RU := RG.out wr BW.out k hlt
   have CC := CL.out es[k] wr BW.out
   have LEN : Hid ((Try.prog.info? 49).map (·.size) = some (cmdC es[k]).length) := (show (Try.prog.info? 49).map (·.size) = some 5 by kernel_rfl)
   have KK := hq (fun (y : Bool) (h : isC cl sq es[k] = y) => h)
   generalize cmdC es[k] = cs at *
   cases hb : isC cl sq es[k]
   ·rw [hb] at CC
    have FIN := hq (KK.out _ hb)
    clear KK hb
    go_wp2_with (refine wpList_load_mid rfl 49 _ rfl b (off + k * 5) rfl cs _ RU Try.underlying49 rfl LEN.out ?_)
    refine CC.mono ?_
    rintro e w1 ⟨rfl, b1⟩
    have B1 := hq (Below.and BW.out b1)
    clear b1
    go_wp2
    go_roundw
    case rel => exact ⟨k + 1, by omega, by go_num, none_more NO.out (fun _ => FIN.out), B1.out⟩
    case measure => simp [intOf]; omega
   ·rw [hb] at CC
    have FIN := hq (KK.out _ hb)
    clear KK hb
    go_wp2_with (refine wpList_load_mid rfl 49 _ rfl b (off + k * 5) rfl cs _ RU Try.underlying49 rfl LEN.out ?_)
    refine CC.mono ?_
    rintro e w1 ⟨rfl, b1⟩
    have B1 := hq (Below.and BW.out b1)
    clear b1
    go_wp2
    go_ret
    exact ⟨_, rfl, .inl ⟨k, hlt, rfl, fun _ => FIN.out, NO.out⟩, B1.out⟩
  ·have hi : ¬ (k : Int) < (es.length : Int) := by omega
   go_wp2
   go_ret
   exact ⟨_, rfl, .inr ⟨rfl, fun i hi => NO.out i hi (by omega)⟩, BW.out⟩

theorem implFirstOf_t (n : Nat) (W : WrV) (D : Wd) (cl sq : Int) (w : World) (h : WrAt n w W D) :
  Calls Try.prog 7 #[W.val, .int .i64 cl, .int .i64 sq] w fun e w' => ∃ r : Int, e = .returned (.int .i64 r) ∧ FirstP cl sq D.cs r ∧ Below w.heap.size w w' := by
 obtain ⟨sz, nv, rv, cv, av, lv⟩ := W
 obtain ⟨q1, q2, q3, q4, q5⟩ := h
 obtain ⟨ca, cb, co, cc, hc, _, hcm, hca, CR0⟩ := q3.parts (K := 5) (fun _ => rfl)
 obtain ⟨A1, C1, e1, _⟩ := q1.len
 obtain ⟨A2, C2, e2, _⟩ := q2.len
 obtain ⟨A4, C4, e4, _⟩ := q4.len
 obtain ⟨A5, C5, e5, _⟩ := q5.len
 simp only at hc e1 e2 e4 e5
 subst hc e1 e2 e4 e5
 unfold maxLen at hcm
 have B1 : Hid (Below w.heap.size w (((w.alloc (.cells #[.int .i64 sz, .slice A1 D.ns.length C1, .slice A2 D.rs.length C2, .slice ca D.cs.length cc, .slice A4 D.ds.length C4, .slice A5 D.ls.length C5] 37)).alloc (.cells #[.int .i64 cl] 3)).alloc (.cells #[.int .i64 sq] 3))) := Below.and (Below.and (bel_nw _ _) (bel_nw _ _)) (bel_nw _ _)
 have KB : Hid ((((w.alloc (.cells #[.int .i64 sz, .slice A1 D.ns.length C1, .slice A2 D.rs.length C2, .slice ca D.cs.length cc, .slice A4 D.ds.length C4, .slice A5 D.ls.length C5] 37)).alloc (.cells #[.int .i64 cl] 3)).alloc (.cells #[.int .i64 sq] 3)).cell? ⟨w.heap.size, 3, none⟩ = some (.slice ca D.cs.length cc)) := by
  have m1 := MBox.start 37 w #[.int .i64 sz, .slice A1 D.ns.length C1, .slice A2 D.rs.length C2, .slice ca D.cs.length cc, .slice A4 D.ds.length C4, .slice A5 D.ls.length C5]
  have c := ((m1.step (bel_nw _ (.cells #[.int .i64 cl] 3))).step (bel_nw _ (.cells #[.int .i64 sq] 3))).cells
  show _ = _
  rw [c]; rfl
 have KX : Hid ((((w.alloc (.cells #[.int .i64 sz, .slice A1 D.ns.length C1, .slice A2 D.rs.length C2, .slice ca D.cs.length cc, .slice A4 D.ds.length C4, .slice A5 D.ls.length C5] 37)).alloc (.cells #[.int .i64 cl] 3)).alloc (.cells #[.int .i64 sq] 3)).cell? ⟨w.heap.size + 1, 0, none⟩ = some (.int .i64 cl)) := by
  have m1 := MBox.start 3 (w.alloc (.cells #[.int .i64 sz, .slice A1 D.ns.length C1, .slice A2 D.rs.length C2, .slice ca D.cs.length cc, .slice A4 D.ds.length C4, .slice A5 D.ls.length C5] 37)) #[.int .i64 cl]
  have c := (m1.step (bel_nw _ (.cells #[.int .i64 sq] 3))).cells
  simp only [World.size_alloc] at c
  show _ = _
  rw [c]; rfl
 have KY : Hid ((((w.alloc (.cells #[.int .i64 sz, .slice A1 D.ns.length C1, .slice A2 D.rs.length C2, .slice ca D.cs.length cc, .slice A4 D.ds.length C4, .slice A5 D.ls.length C5] 37)).alloc (.cells #[.int .i64 cl] 3)).alloc (.cells #[.int .i64 sq] 3)).cell? ⟨w.heap.size + 1 + 1, 0, none⟩ = some (.int .i64 sq)) := by
  have m1 := MBox.start 3 ((w.alloc (.cells #[.int .i64 sz, .slice A1 D.ns.length C1, .slice A2 D.rs.length C2, .slice ca D.cs.length cc, .slice A4 D.ds.length C4, .slice A5 D.ls.length C5] 37)).alloc (.cells #[.int .i64 cl] 3)) #[.int .i64 sq]
  have c := m1.cells
  simp only [World.size_alloc] at c
  show _ = _
  rw [c]; rfl
 have CR := hq (fun u (hu : Below (((w.alloc (.cells #[.int .i64 sz, .slice A1 D.ns.length C1, .slice A2 D.rs.length C2, .slice ca D.cs.length cc, .slice A4 D.ds.length C4, .slice A5 D.ls.length C5] 37)).alloc (.cells #[.int .i64 cl] 3)).alloc (.cells #[.int .i64 sq] 3)).heap.size (((w.alloc (.cells #[.int .i64 sz, .slice A1 D.ns.length C1, .slice A2 D.rs.length C2, .slice ca D.cs.length cc, .slice A4 D.ds.length C4, .slice A5 D.ls.length C5] 37)).alloc (.cells #[.int .i64 cl] 3)).alloc (.cells #[.int .i64 sq] 3)) u) => CR0 u (Below.and B1.out hu))
 clear q1 q2 q3 q4 q5 CR0
 show Calls Try.prog 7 #[.agg #[.int .i64 sz, .slice A1 D.ns.length C1, .slice A2 D.rs.length C2, .slice ca D.cs.length cc, .slice A4 D.ds.length C4, .slice A5 D.ls.length C5], .int .i64 cl, .int .i64 sq] w _
 go_enter Try.func7, Try.ntmps7
 go_upto_region 1 with fail
 generalize (((w.alloc (.cells #[.int .i64 sz, .slice A1 D.ns.length C1, .slice A2 D.rs.length C2, .slice ca D.cs.length cc, .slice A4 D.ds.length C4, .slice A5 D.ls.length C5] 37)).alloc (.cells #[.int .i64 cl] 3)).alloc (.cells #[.int .i64 sq] 3)) = V at *
 have c3 := KB.out
 have CC := indexFunc_any D.cs ca cb co cc cl sq (w.heap.size + 1) (w.heap.size + 1 + 1) V (by omega) hca CR.out KX.out KY.out
 clear CR KX KY hca
 go_wp2_with fail
 refine CC.mono ?_
 rintro e w1 ⟨r, rfl, hr, b1⟩
 have FIN := hq (Below.and B1.out b1)
 go_wp2
 go_ret
 exact ⟨_, rfl, hr, FIN.out⟩
end
section
open Go.RowKit

theorem newAllW {w : World} {t : TypeId} {A : Array Value} {vs : List Value} (hn : A.size = vs.length) : Below w.heap.size w ((w.alloc (.cells A t)).setCells w.heap.size 0 vs) ∧ ((w.alloc (.cells A t)).setCells w.heap.size 0 vs).heap[w.heap.size]? = some (.cells vs.toArray t (0, 0)) :=
 ⟨(bel_nw w (.cells A t)).trans ((Chg.setCells (F := fun g => g = w.heap.size) (g := w.heap.size) (fun _ => rfl) vs 0 _ (Chg.refl _ _)).below (fun g _ hg => by omega) (by simp)), setAll_at (heap_alloc_new w _) vs hn⟩
def WrV.cs (W : WrV) : List Value := [.int .i64 W.sz, W.nv, W.rv, W.cv, W.av, W.lv]
theorem WrAt.ones {n : Nat} {w : World} {W : WrV} {D : Wd} (h : WrAt n w W D) : W.cs.toArray.all (·.oneCell') = true := by
 obtain ⟨sz, nv, rv, cv, av, lv⟩ := W
 obtain ⟨q1, q2, q3, q4, q5⟩ := h
 obtain ⟨_, _, e1, _⟩ := q1.len
 obtain ⟨_, _, e2, _⟩ := q2.len
 obtain ⟨_, _, e3, _⟩ := q3.len
 obtain ⟨_, _, e4, _⟩ := q4.len
 obtain ⟨_, _, e5, _⟩ := q5.len
 simp only at e1 e2 e3 e4 e5
 subst e1 e2 e3 e4 e5
 simp [WrV.cs, Value.oneCell']
def wrZ : Array Value := #[.int .i64 0, .slice none 0 0, .slice none 0 0, .slice none 0 0, .slice none 0 0, .slice none 0 0]

theorem fnExactFirstOf_any (n : Nat) (W : WrV) (D : Wd) (cl sq : Int) (w : World) (h : WrAt n w W D) :
  Calls Try.prog 3 #[W.val, .int .i64 cl, .int .i64 sq] w fun e w' => e = .returned (.bool true) ∧ Below w.heap.size w w' := by
 have SZ1 := hq (fun u (hu : Below w.heap.size w u) => szWorld_t n W D u (h.below hu))
 have TO1 : Hid (∀ u, Below w.heap.size w u → D.small n → Calls Try.prog 6 #[W.val] u fun e w' => ∃ (V : WrV) (E : Wd), e = .returned (.agg V.cs.toArray) ∧ W.sz = V.sz ∧ D.like E ∧ WrAt n w' V E ∧ Below u.heap.size u w') := fun u hu hs => (toWorld_own n W D u (h.below hu) hs).mono (fun e w' ⟨V, E, a, b, c, d, f⟩ => ⟨V, E, a, b, c, d.at, f⟩)
 have SP : Hid (∀ (V : WrV) (E : Wd) (u : World), D.like E → WrAt n u V E → Calls Try.prog 5 #[.agg V.cs.toArray, .int .i64 cl, .int .i64 sq] u fun e w' => ∃ r : Int, e = .returned (.int .i64 r) ∧ FirstP cl sq D.cs r ∧ Below u.heap.size u w') := fun V E u h2 h4 => by rw [h2.c]; exact specFirstOf_t n V E cl sq u h4
 have IP : Hid (∀ (V : WrV) (E : Wd) (u : World), D.like E → WrAt n u V E → Calls Try.prog 7 #[.agg V.cs.toArray, .int .i64 cl, .int .i64 sq] u fun e w' => ∃ r : Int, e = .returned (.int .i64 r) ∧ FirstP cl sq D.cs r ∧ Below u.heap.size u w') := fun V E u h2 h4 => by rw [h2.c]; exact implFirstOf_t n V E cl sq u h4
 have EQ : Hid (∀ (V X : WrV) (E F : Wd) (u : World), W.sz = V.sz → W.sz = X.sz → D.like E → D.like F → WrAt n u V E → WrAt n u X F → Calls Try.prog 8 #[.agg V.cs.toArray, .agg X.cs.toArray] u fun e w' => e = .returned (.bool true) ∧ Below u.heap.size u w') := fun V X E F u h1 h2 h3 h4 h5 h6 => eqWorld_t n V X E F u (h1.symm.trans h2) (h3.both h4) h5 h6
 have SL : Hid (∀ E : Wd, D.small n → D.like E → E.small n) := fun E a b => a.like b
 have B1 : Hid (Below w.heap.size w (w.alloc (.cells W.cs.toArray 28))) := bel_nw _ _
 have N1 : Hid ((w.alloc (.cells W.cs.toArray 28)).heap[w.heap.size]? = some (.cells W.cs.toArray 28 (0, 0))) := heap_alloc_new _ _
 have HIL : Hid ((Try.prog.info? 28).map (·.size) = some W.cs.length) := (show (Try.prog.info? 28).map (·.size) = some 6 by kernel_rfl)
 replace SZ1 : Hid (∀ u, Below w.heap.size w u → Calls Try.prog 4 #[.agg W.cs.toArray, .int .i64 1048576] u fun e w' => ∃ r : Int, e = .returned (.int .i64 r) ∧ r ≤ 1048576 ∧ (¬ r < 0 → D.small n) ∧ Below u.heap.size u w') := SZ1
 replace TO1 : Hid (∀ u, Below w.heap.size w u → D.small n → Calls Try.prog 6 #[.agg W.cs.toArray] u fun e w' => ∃ (V : WrV) (E : Wd), e = .returned (.agg V.cs.toArray) ∧ W.sz = V.sz ∧ D.like E ∧ WrAt n w' V E ∧ Below u.heap.size u w') := TO1
 clear h
 show Calls Try.prog 3 #[.agg W.cs.toArray, .int .i64 cl, .int .i64 sq] w _
 generalize W.cs = cs at *
 generalize W.sz = sz at *
 go_enter Try.func3, Try.ntmps3
 go_upto_region 1 with fail
 generalize w.alloc (.cells cs.toArray 28) = V0 at *
 have ra := range_of N1.out
 go_wp2_with (refine wpList_load_mid rfl 28 _ rfl w.heap.size 0 rfl cs _ ra Try.underlying28 rfl HIL.out ?_)
 refine (SZ1.out _ B1.out).mono ?_
 rintro e w1 ⟨r, rfl, hr1, hsm, b1⟩
 have SM := hq hsm
 replace N1 := hq (step_at N1.out b1)
 replace B1 := hq (Below.and B1.out b1)
 clear b1 ra hsm
 by_cases hr : r < 0
 ·go_wp2
  go_ret
  exact ⟨rfl, B1.out⟩
 replace SM := hq (SM.out (by omega))
 have ra := range_of N1.out
 go_wp2_with (refine wpList_load_mid rfl 28 _ rfl w.heap.size 0 rfl cs _ ra Try.underlying28 rfl HIL.out ?_)
 refine (TO1.out _ B1.out SM.out).mono ?_
 rintro e w2 ⟨V, E, rfl, e1, e2, e3, b2⟩
 have C1 := hq (SP.out V E w2 e2 e3)
 replace N1 := hq (step_at N1.out b2)
 replace B1 := hq (Below.and B1.out b2)
 clear b2 ra e1 e2 e3
 generalize V.cs = z1 at *
 go_wp2_with fail
 refine C1.out.mono ?_
 rintro e w3 ⟨bb, rfl, hd, b3⟩
 have D1 := hq hd
 replace N1 := hq (step_at N1.out b3)
 replace B1 := hq (Below.and B1.out b3)
 clear b3 C1 hd V E
 have ra := range_of N1.out
 go_wp2_with (refine wpList_load_mid rfl 28 _ rfl w.heap.size 0 rfl cs _ ra Try.underlying28 rfl HIL.out ?_)
 refine (TO1.out _ B1.out SM.out).mono ?_
 rintro e w5 ⟨V, E, rfl, e1, e2, e3, b5⟩
 have e4 := hq e3.ones
 have HIM : Hid ((Try.prog.info? 37).map (·.size) = some V.cs.length) := (show (Try.prog.info? 37).map (·.size) = some 6 by kernel_rfl)
 have NA := newAllW (w := w5) (t := 37) (A := wrZ) (vs := V.cs) rfl
 have TH : Hid ((w5.alloc (.cells #[.int .i64 0, .slice none 0 0, .slice none 0 0, .slice none 0 0, .slice none 0 0, .slice none 0 0] 37)).there w5.heap.size 0 V.cs.toArray.size) := there_of (heap_alloc_new w5 _) rfl
 have X5 := hq NA.2
 have E5 := hq (And.intro e1 e2)
 have M5 := hq (e3.below NA.1)
 replace N1 := hq (step_at (step_at N1.out b5) NA.1)
 replace B1 := hq (Below.and (Below.and B1.out b5) NA.1)
 clear e1 e2 e3 b5 ra NA
 have C2 := hq (fun u hu => IP.out V E u E5.out.2 hu)
 have Q2 := hq (fun X F u h1 h2 h3 h4 => EQ.out V X E F u E5.out.1 h1 E5.out.2 h2 h3 h4)
 unfold wrZ at X5 M5 N1 B1
 generalize V.cs = xs at *
 go_upto_region 7 with (refine wpList_store_mid rfl 37 _ _ rfl w5.heap.size 0 xs.toArray rfl rfl TH.out HIM.out e4.out ?_)
 clear TH
 generalize ((w5.alloc (.cells #[.int .i64 0, .slice none 0 0, .slice none 0 0, .slice none 0 0, .slice none 0 0, .slice none 0 0] 37)).setCells w5.heap.size 0 xs) = V5 at *
 generalize w5.heap.size = bx at *
 have rb := range_of X5.out
 go_wp2_with (refine wpList_load_mid rfl 37 _ rfl bx 0 rfl xs _ rb Try.underlying37 rfl HIM.out ?_)
 refine (C2.out _ M5.out).mono ?_
 rintro e w7 ⟨b', rfl, hd, b7⟩
 have hbb : b' = bb := hd.one D1.out
 subst hbb
 replace X5 := hq (step_at X5.out b7)
 replace M5 := hq (M5.out.below b7)
 replace N1 := hq (step_at N1.out b7)
 replace B1 := hq (Below.and B1.out b7)
 clear b7 rb hd C2 D1
 go_upto_region 10 with fail
 have RF := hq ((Below.refl w7.heap.size w7).drew)
 have KE := hq (fun u (hu : Below w7.heap.size w7 u) => And.intro (range_of (step_at X5.out hu)) (range_of (step_at N1.out hu)))
 refine wp_region_held_drew (S := fun u => u.rangeAt bx 0 xs ∧ u.rangeAt w.heap.size 0 cs) (by kernel_rfl) (KE.out _ RF.out) (fun hH => ?_)
 refine tk 0 (oi := ⟨_, _, _, _, _, _⟩) (v := .agg xs.toArray) rfl (by kernel_rfl) (fun _ _ _ h => h) (yieldsIf_load_mid rfl 37 _ rfl bx 0 rfl xs _ (fun u hu => hu.1) Try.underlying37 rfl HIM.out) (KE.out _ RF.out) ?_
 try simp only [Act.put, sA, sB, sC]
 refine tk 1 (oi := ⟨_, _, _, _, _, _⟩) (v := .agg cs.toArray) rfl (by kernel_rfl) (fun _ _ _ h => h) (yieldsIf_load_mid rfl 28 _ rfl w.heap.size 0 rfl cs _ (fun u hu => hu.2) Try.underlying28 rfl HIL.out) (KE.out _ RF.out) ?_
 try simp only [Act.put, sA, sB, sC]
 refine wp_chain [(2, none), (3, none), (4, none)] rfl (by kernel_rfl) (fun u hu => KE.out u (Below.and RF.out hu)) ?_ ?_
 ·intro f g hf
  simp at hf
 refine CW.op (o := ⟨_, _, _, _, _, _⟩) rfl (fun u1 l1 K hK => ?_)
 have L1 := hq (Below.and RF.out l1)
 refine call_by 6 [.tmp 31] #[28] rfl (fun args w => by go_simp) [.agg cs.toArray] rfl (TO1.out u1 (Below.and B1.out L1.out) SM.out) ?_
 rintro e x1 ⟨X, F, rfl, f1, f2, f3, b1⟩
 refine ⟨_, rfl, hK.out _ _ b1 ?_⟩
 clear hK K
 have L2 := hq (Below.and L1.out b1)
 have FX := hq (And.intro f1 (And.intro f2 f3))
 clear f1 f2 f3 b1 l1
 refine CW.op (o := ⟨_, _, _, _, _, _⟩) rfl (fun u2 l2 K hK => ?_)
 have L3 := hq (Below.and L2.out l2)
 refine call_by 8 [.tmp 30, .tmp 32] #[37, 37] rfl (fun args w => by go_simp) [.agg xs.toArray, .agg X.cs.toArray] rfl (Q2.out X F u2 FX.out.1 FX.out.2.1 (M5.out.below L3.out) (FX.out.2.2.below l2)) ?_
 rintro e x2 ⟨rfl, b2⟩
 refine ⟨_, rfl, hK.out _ _ b2 ?_⟩
 clear hK K
 have L4 := hq (Below.and L3.out b2)
 clear b2 l2
 refine CW.op (o := ⟨_, _, _, _, _, _⟩) rfl (fun u3 l3 K hK => ?_)
 refine wp_not_by _ rfl true rfl (hK.out _ _ (Ltr.refl _) ?_)
 clear hK K
 refine CW.done (fun u4 l4 => ?_)
 have FIN := hq (Below.and B1.out (Below.and L4.out (Below.and l3 l4)))
 clear l3 l4
 go_wp2
 go_ret
 exact ⟨rfl, FIN.out⟩
end
section
open Go.ChangeShapes Go.WideShapes Go.ChangeAt Go.RowKit Go.Deep

theorem Try.own : ownKnob Try.prog.godebug = none := by kernel_rfl
theorem Try.laidOut : laidOutB Try.prog = true := by kernel_rfl
theorem Try.cells154 : Try.prog.cellsOf 154 = 2 := by kernel_rfl
theorem Try.cells3 : Try.prog.cellsOf 3 = 1 := by kernel_rfl
end
section
open Go.ChangeShapes Go.WideShapes Go.ChangeAt Go.RowKit Go.Deep Go.Joins

theorem Try.cells100 : Try.prog.cellsOf 100 = 3 := by kernel_rfl

theorem flatM_all (l : ML) (g : Nat → Option Value) (h : ∀ i, i < l.length → g (i * 3) = some (.int .i64 (mO l i)) ∧ g (i * 3 + 1) = some (.int .i64 (mK l i)) ∧ g (i * 3 + 2) = some (.int .i64 (mV l i))) :
  ∀ j u, (flatM l)[j]? = some u → g j = some u := by
 intro j u hj
 have hjl := (List.getElem?_eq_some_iff.1 hj).1
 rw [flatM_length] at hjl
 have hi : j / 3 < l.length := by omega
 have hat := flatM_at l (j / 3) hi
 have hc := h (j / 3) hi
 rcases (show j % 3 = 0 ∨ j % 3 = 1 ∨ j % 3 = 2 by omega) with h0 | h0 | h0
 ·have e : j / 3 * 3 = j := by omega
  rw [e] at hat hc
  rw [hc.1, ← hat.1, hj]
 ·have e : j / 3 * 3 + 1 = j := by omega
  rw [e] at hat hc
  rw [hc.2.1, ← hat.2.1, hj]
 ·have e : j / 3 * 3 + 2 = j := by omega
  rw [e] at hat hc
  rw [hc.2.2, ← hat.2.2, hj]
end
end Go.Proofs.Ythfmifdpldmbaaa
