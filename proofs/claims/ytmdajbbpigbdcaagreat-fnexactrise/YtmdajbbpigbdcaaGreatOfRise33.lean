/-
  The program's Rise.
-/
import Derived.Test.YtmdajbbpigbdcaaGreatOfRise24
import Derived.Test.YtmdajbbpigbdcaaGreatOfRise26
import Derived.Test.YtmdajbbpigbdcaaGreatOfRise28
import Derived.Test.YtmdajbbpigbdcaaGreatOfRise32
namespace Go.Proofs.YtmdajbbpigbdcaaGreat
set_option maxRecDepth 100000
set_option maxHeartbeats 8000000
section
open Go.RowKit

theorem OwnI.low {w : World} {lo lo' hi e size k : Nat} {v : Value} {xs : List Value} (h : OwnI w lo hi e size v k xs) (hb : lo' ≤ lo) : OwnI w lo' hi e size v k xs := ⟨h.1.mono hb, h.2⟩
theorem NodD.low {n : Nat} {w : World} {lo lo' : Nat} {N : NodV} {D : Nd} (h : NodD n w lo N D) (hb : lo' ≤ lo) : NodD n w lo' N D := by
 obtain ⟨c1, c2, c3, c4, c5, c6, h1, h2, h3, h4, h5, h6, h7, o1, o2, o3, o4, o5, o6⟩ := h
 exact ⟨c1, c2, c3, c4, c5, c6, by omega, h2, h3, h4, h5, h6, h7, o1.low hb, o2, o3, o4, o5, o6⟩
theorem rise_made {n : Nat} {w : World} {lo c1 c2 c3 c4 c5 : Nat} {N : NodV} {D : Nd} {m : MacV} (b1 : lo ≤ c1) (b2 : c1 ≤ c2) (b3 : c2 ≤ c3) (b4 : c3 ≤ c4) (b5 : c4 ≤ c5) (b6 : c5 ≤ w.heap.size)
  (o1 : OwnI w lo c1 113 6 N.lv D.l.length (flatE D.l)) (o2 : MacI n w c1 c2 N.s D.T1 D.d1) (o3 : OwnI w c2 c3 4 1 N.vv D.vs.length (List.replicate D.vs.length (.bool false))) (o4 : OwnI w c3 c4 3 1 N.nv D.nx.length (flatI (List.replicate D.nx.length 1))) (o5 : OwnI w c4 c5 3 1 N.mv D.mt.length (List.replicate D.mt.length (.int .i64 0))) (o6 : MacI n w c5 w.heap.size m D.T1 D.d1) :
  NodD n w lo ⟨N.id, N.te, N.vo, N.lb, N.lt, N.lv, N.s, 0, N.vv, N.nv, N.mv, N.lb, m⟩ (riseD true D) := by
 refine ⟨c1, c2, c3, c4, c5, w.heap.size, b1, b2, b3, b4, b5, b6, Nat.le_refl _, o1, o2, ?_, ?_, ?_, o6⟩
 ·show OwnI w c2 c3 4 1 N.vv (List.replicate D.vs.length false).length (flatL (List.replicate D.vs.length false))
  rw [flatL_rep, List.length_replicate]
  exact o3
 ·show OwnI w c3 c4 3 1 N.nv (List.replicate D.nx.length (1 : Int)).length (flatI (List.replicate D.nx.length 1))
  rw [List.length_replicate]
  exact o4
 ·show OwnI w c4 c5 3 1 N.mv (List.replicate D.mt.length (0 : Int)).length (flatI (List.replicate D.mt.length 0))
  rw [flatI_rep, List.length_replicate]
  exact o5

theorem implRise_any (n : Nat) (N : NodV) (D : Nd) (size : Int) (F1 F2 : Nat → Prop) (w : World) (h : NodAt n w N D) (hs : D.small n) (s1 : Src true n w F1 N.s.x D.T1) (s2 : Src true n w F2 N.o.x D.T2) :
  Calls Tryz.prog 8 #[N.val, .int .i64 size] w fun e w' => ∃ K : NodV, e = .returned K.val ∧ riseL (nodeOkB N D size) N K ∧ NodD n w' w.heap.size K (riseD (nodeOkB N D size) D) ∧ Below w.heap.size w w' := by
 have CP : Hid (∀ u, Below w.heap.size w u → Calls Tryz.prog 29 #[N.val] u fun e w' => ∃ M : NodV, e = .returned M.val ∧ N.like M ∧ NodD n w' u.heap.size M D ∧ Below u.heap.size u w') := fun u hu => copyOfNode_any n N D true F1 F2 u (h.below hu) hs (s1.below hu) (s2.below hu) (fun e => by cases e)
 have OK : Hid (∀ u, Below w.heap.size w u → Calls Tryz.prog 30 #[N.val, .int .i64 size] u fun e w' => e = .returned (.bool (nodeOkB N D size)) ∧ Below u.heap.size u w') := fun u hu => implNodeOk_any n N D size u (h.below hu) hs
 have HS := hid9 hs
 clear h hs s1 s2
 generalize nodeOkB N D size = bb at *
 obtain ⟨id, te, vo, lb, lt, lv, ⟨⟨sl, sp, sc, sk, sb⟩, sv⟩, ro, vv, nv, mv, cm, ⟨⟨ol, op, oc, ok, ob⟩, ov⟩⟩ := N
 replace CP : Hid (∀ u, Below w.heap.size w u → Calls Tryz.prog 29 #[.agg #[.int .i64 id, .int .i64 te, .int .i64 vo, .int .i64 lb, .int .i64 lt, lv, .bool sl, sp, sc, sk, sb, sv, .int .i64 ro, vv, nv, mv, .int .i64 cm, .bool ol, op, oc, ok, ob, ov]] u fun e w' => ∃ M : NodV, e = .returned M.val ∧ NodV.like ⟨id, te, vo, lb, lt, lv, ⟨⟨sl, sp, sc, sk, sb⟩, sv⟩, ro, vv, nv, mv, cm, ⟨⟨ol, op, oc, ok, ob⟩, ov⟩⟩ M ∧ NodD n w' u.heap.size M D ∧ Below u.heap.size u w') := CP
 replace OK : Hid (∀ u, Below w.heap.size w u → Calls Tryz.prog 30 #[.agg #[.int .i64 id, .int .i64 te, .int .i64 vo, .int .i64 lb, .int .i64 lt, lv, .bool sl, sp, sc, sk, sb, sv, .int .i64 ro, vv, nv, mv, .int .i64 cm, .bool ol, op, oc, ok, ob, ov], .int .i64 size] u fun e w' => e = .returned (.bool bb) ∧ Below u.heap.size u w') := OK
 have HI : Hid ((Tryz.prog.info? 50).map (·.size) = some (List.length ([.int .i64 id, .int .i64 te, .int .i64 vo, .int .i64 lb, .int .i64 lt, lv, .bool sl, sp, sc, sk, sb, sv, .int .i64 ro, vv, nv, mv, .int .i64 cm, .bool ol, op, oc, ok, ob, ov] : List Value))) := (show (Tryz.prog.info? 50).map (·.size) = some 23 by kernel_rfl)
 have B1 : Hid (Below w.heap.size w ((w.alloc (.cells #[.int .i64 id, .int .i64 te, .int .i64 vo, .int .i64 lb, .int .i64 lt, lv, .bool sl, sp, sc, sk, sb, sv, .int .i64 ro, vv, nv, mv, .int .i64 cm, .bool ol, op, oc, ok, ob, ov] 50)).alloc (.cells #[.int .i64 0, .int .i64 0, .int .i64 0, .int .i64 0, .int .i64 0, .slice none 0 0, .bool false, .slice none 0 0, .slice none 0 0, .slice none 0 0, .slice none 0 0, .slice none 0 0, .int .i64 0, .slice none 0 0, .slice none 0 0, .slice none 0 0, .int .i64 0, .bool false, .slice none 0 0, .slice none 0 0, .slice none 0 0, .slice none 0 0, .slice none 0 0] 50))) := Below.and (bel_nw _ _) (bel_nw _ _)
 have Y1 : Hid (((w.alloc (.cells #[.int .i64 id, .int .i64 te, .int .i64 vo, .int .i64 lb, .int .i64 lt, lv, .bool sl, sp, sc, sk, sb, sv, .int .i64 ro, vv, nv, mv, .int .i64 cm, .bool ol, op, oc, ok, ob, ov] 50)).alloc (.cells #[.int .i64 0, .int .i64 0, .int .i64 0, .int .i64 0, .int .i64 0, .slice none 0 0, .bool false, .slice none 0 0, .slice none 0 0, .slice none 0 0, .slice none 0 0, .slice none 0 0, .int .i64 0, .slice none 0 0, .slice none 0 0, .slice none 0 0, .int .i64 0, .bool false, .slice none 0 0, .slice none 0 0, .slice none 0 0, .slice none 0 0, .slice none 0 0] 50)).heap[w.heap.size]? = some (.cells (List.toArray ([.int .i64 id, .int .i64 te, .int .i64 vo, .int .i64 lb, .int .i64 lt, lv, .bool sl, sp, sc, sk, sb, sv, .int .i64 ro, vv, nv, mv, .int .i64 cm, .bool ol, op, oc, ok, ob, ov] : List Value)) 50 (0, 0))) := (MBox.start 50 w #[.int .i64 id, .int .i64 te, .int .i64 vo, .int .i64 lb, .int .i64 lt, lv, .bool sl, sp, sc, sk, sb, sv, .int .i64 ro, vv, nv, mv, .int .i64 cm, .bool ol, op, oc, ok, ob, ov]).step (bel_nw _ _)
 have Y2 : Hid (((w.alloc (.cells #[.int .i64 id, .int .i64 te, .int .i64 vo, .int .i64 lb, .int .i64 lt, lv, .bool sl, sp, sc, sk, sb, sv, .int .i64 ro, vv, nv, mv, .int .i64 cm, .bool ol, op, oc, ok, ob, ov] 50)).alloc (.cells #[.int .i64 0, .int .i64 0, .int .i64 0, .int .i64 0, .int .i64 0, .slice none 0 0, .bool false, .slice none 0 0, .slice none 0 0, .slice none 0 0, .slice none 0 0, .slice none 0 0, .int .i64 0, .slice none 0 0, .slice none 0 0, .slice none 0 0, .int .i64 0, .bool false, .slice none 0 0, .slice none 0 0, .slice none 0 0, .slice none 0 0, .slice none 0 0] 50)).heap[(w.heap.size + 1)]? = some (.cells #[.int .i64 0, .int .i64 0, .int .i64 0, .int .i64 0, .int .i64 0, .slice none 0 0, .bool false, .slice none 0 0, .slice none 0 0, .slice none 0 0, .slice none 0 0, .slice none 0 0, .int .i64 0, .slice none 0 0, .slice none 0 0, .slice none 0 0, .int .i64 0, .bool false, .slice none 0 0, .slice none 0 0, .slice none 0 0, .slice none 0 0, .slice none 0 0] 50 (0, 0))) := by
  have := MBox.start 50 (w.alloc (.cells #[.int .i64 id, .int .i64 te, .int .i64 vo, .int .i64 lb, .int .i64 lt, lv, .bool sl, sp, sc, sk, sb, sv, .int .i64 ro, vv, nv, mv, .int .i64 cm, .bool ol, op, oc, ok, ob, ov] 50)) #[.int .i64 0, .int .i64 0, .int .i64 0, .int .i64 0, .int .i64 0, .slice none 0 0, .bool false, .slice none 0 0, .slice none 0 0, .slice none 0 0, .slice none 0 0, .slice none 0 0, .int .i64 0, .slice none 0 0, .slice none 0 0, .slice none 0 0, .int .i64 0, .bool false, .slice none 0 0, .slice none 0 0, .slice none 0 0, .slice none 0 0, .slice none 0 0]
  rw [World.size_alloc] at this
  exact this
 have ZW : Hid (((w.alloc (.cells #[.int .i64 id, .int .i64 te, .int .i64 vo, .int .i64 lb, .int .i64 lt, lv, .bool sl, sp, sc, sk, sb, sv, .int .i64 ro, vv, nv, mv, .int .i64 cm, .bool ol, op, oc, ok, ob, ov] 50)).alloc (.cells #[.int .i64 0, .int .i64 0, .int .i64 0, .int .i64 0, .int .i64 0, .slice none 0 0, .bool false, .slice none 0 0, .slice none 0 0, .slice none 0 0, .slice none 0 0, .slice none 0 0, .int .i64 0, .slice none 0 0, .slice none 0 0, .slice none 0 0, .int .i64 0, .bool false, .slice none 0 0, .slice none 0 0, .slice none 0 0, .slice none 0 0, .slice none 0 0] 50)).heap.size = w.heap.size + 2) := by show _ = _; simp
 show Calls Tryz.prog 8 #[.agg #[.int .i64 id, .int .i64 te, .int .i64 vo, .int .i64 lb, .int .i64 lt, lv, .bool sl, sp, sc, sk, sb, sv, .int .i64 ro, vv, nv, mv, .int .i64 cm, .bool ol, op, oc, ok, ob, ov], .int .i64 size] w _
 go_enter Tryz.func8, Tryz.ntmps8
 go_upto_region 1 with fail
 generalize ((w.alloc (.cells #[.int .i64 id, .int .i64 te, .int .i64 vo, .int .i64 lb, .int .i64 lt, lv, .bool sl, sp, sc, sk, sb, sv, .int .i64 ro, vv, nv, mv, .int .i64 cm, .bool ol, op, oc, ok, ob, ov] 50)).alloc (.cells #[.int .i64 0, .int .i64 0, .int .i64 0, .int .i64 0, .int .i64 0, .slice none 0 0, .bool false, .slice none 0 0, .slice none 0 0, .slice none 0 0, .slice none 0 0, .slice none 0 0, .int .i64 0, .slice none 0 0, .slice none 0 0, .slice none 0 0, .int .i64 0, .bool false, .slice none 0 0, .slice none 0 0, .slice none 0 0, .slice none 0 0, .slice none 0 0] 50)) = W at *
 generalize ([.int .i64 id, .int .i64 te, .int .i64 vo, .int .i64 lb, .int .i64 lt, lv, .bool sl, sp, sc, sk, sb, sv, .int .i64 ro, vv, nv, mv, .int .i64 cm, .bool ol, op, oc, ok, ob, ov] : List Value) = cs at *
 have ra := range_of Y1.out
 rw [List.toList_toArray] at ra
 go_wp2_with (refine wpList_load_g (by rfl) 50 _ rfl w.heap.size 0 rfl cs _ ra Tryz.underlying50 rfl HI.out ?_)
 refine (CP.out _ B1.out).mono ?_
 rintro e w1 ⟨M, rfl, lk, nd, b1⟩
 obtain ⟨ms, msv, msl, mso⟩ := nd.at.cells
 have HIN : Hid ((Tryz.prog.info? 50).map (·.size) = some ms.toArray.size) := by
  show _ = _
  rw [List.size_toArray, msl]
  kernel_rfl
 have NA := newAll (w := w1) (t := 50) (A := #[.int .i64 0, .int .i64 0, .int .i64 0, .int .i64 0, .int .i64 0, .slice none 0 0, .bool false, .slice none 0 0, .slice none 0 0, .slice none 0 0, .slice none 0 0, .slice none 0 0, .int .i64 0, .slice none 0 0, .slice none 0 0, .slice none 0 0, .int .i64 0, .bool false, .slice none 0 0, .slice none 0 0, .slice none 0 0, .slice none 0 0, .slice none 0 0]) (vs := ms) msl.symm
 have TH : Hid (World.there (w1.alloc (.cells #[.int .i64 0, .int .i64 0, .int .i64 0, .int .i64 0, .int .i64 0, .slice none 0 0, .bool false, .slice none 0 0, .slice none 0 0, .slice none 0 0, .slice none 0 0, .slice none 0 0, .int .i64 0, .slice none 0 0, .slice none 0 0, .slice none 0 0, .int .i64 0, .bool false, .slice none 0 0, .slice none 0 0, .slice none 0 0, .slice none 0 0, .slice none 0 0] 50)) w1.heap.size 0 ms.toArray.size) := there_of (heap_alloc_new w1 _) (show 23 = ms.toArray.size by rw [List.size_toArray, msl])
 have X5 := hid9 NA.2
 have CB : Hid (w.heap.size + 2 ≤ w1.heap.size) := by have := b1.size; have := ZW.out; show _ ≤ _; omega
 have ND0 : Hid (NodD n w1 (w.heap.size + 2) M D) := by have := nd; rw [ZW.out] at this; exact this
 have NB := hid9 NA.1
 replace Y1 := hid9 (step_at (step_at Y1.out b1) NA.1)
 replace Y2 := hid9 (step_at (step_at Y2.out b1) NA.1)
 replace B1 := hid9 (Below.and (Below.and B1.out b1) NA.1)
 have LK := hid9 lk
 rw [msv]
 clear ra nd lk b1 NA CP
 go_upto_region 2 with (refine wpList_store_mid rfl 50 _ _ rfl w1.heap.size 0 ms.toArray rfl rfl TH.out HIN.out mso ?_)
 clear TH
 generalize hW5 : (w1.alloc (.cells #[.int .i64 0, .int .i64 0, .int .i64 0, .int .i64 0, .int .i64 0, .slice none 0 0, .bool false, .slice none 0 0, .slice none 0 0, .slice none 0 0, .slice none 0 0, .slice none 0 0, .int .i64 0, .slice none 0 0, .slice none 0 0, .slice none 0 0, .int .i64 0, .bool false, .slice none 0 0, .slice none 0 0, .slice none 0 0, .slice none 0 0, .slice none 0 0] 50)).setCells w1.heap.size 0 ms = W5 at *
 clear hW5
 have ra := range_of Y1.out
 rw [List.toList_toArray] at ra
 go_wp2_with (refine wpList_load_g (by rfl) 50 _ rfl w.heap.size 0 rfl cs _ ra Tryz.underlying50 rfl HI.out ?_)
 refine (OK.out _ B1.out).mono ?_
 rintro e w2 ⟨rfl, b2⟩
 replace X5 := hid9 (step_at X5.out b2)
 replace Y2 := hid9 (step_at Y2.out b2)
 replace B1 := hid9 (Below.and B1.out b2)
 have NBB : Hid (Below w1.heap.size w1 w2) := Below.and NB.out b2
 obtain ⟨c1, c2, c3, c4, c5, c6, q1, q2, q3, q4, q5, q6, q7, o1, o2, o3, o4, o5, o6⟩ := ND0.out
 have MA : Hid (ms.toArray = nodArr M) := by have := msv; simp only [NodV.val] at this; injection this with e; exact e.symm
 cases hbb : bb
 ·have RL : Hid (riseL bb ⟨id, te, vo, lb, lt, lv, ⟨⟨sl, sp, sc, sk, sb⟩, sv⟩, ro, vv, nv, mv, cm, ⟨⟨ol, op, oc, ok, ob⟩, ov⟩⟩ M) := by show riseL _ _ _; rw [hbb]; exact riseL.no LK.out
  have ND : Hid (NodD n w2 (w.heap.size + 2) M (riseD bb D)) := by show NodD _ _ _ _ _; rw [hbb]; exact ND0.out.below NBB.out
  clear b2 ra MA o1 o2 o3 o4 o5 o6 NB NBB LK ND0 Y1 HIN OK
  generalize w1.heap.size = B at *
  generalize w2 = V at *
  have RG : Hid (V.rangeAt B 0 ms) := by have := range_of X5.out; rw [List.toList_toArray] at this; exact this
  have TH2 : Hid (V.there (w.heap.size + 1) 0 ms.toArray.size) := there_of Y2.out (show 23 = ms.toArray.size by rw [List.size_toArray, msl])
  have GC : Hid (Chg (fun g => g = (w.heap.size + 1)) V (V.setCells (w.heap.size + 1) 0 ms)) := Chg.setCells (F := fun g => g = (w.heap.size + 1)) (g := (w.heap.size + 1)) (fun _ => rfl) ms 0 V (Chg.refl _ _)
  have XF : Hid ((V.setCells (w.heap.size + 1) 0 ms).heap[(w.heap.size + 1)]? = some (.cells ms.toArray 50 (0, 0))) := setAll_at Y2.out ms (by rw [msl]; rfl)
  have HM1 : Hid ((Tryz.prog.info? 50).map (·.size) = some ms.length) := by show _ = _; rw [msl]; kernel_rfl
  have HM2 : Hid ((Tryz.prog.info? 50).map (·.size) = some ms.toArray.size) := by show _ = _; rw [List.size_toArray]; exact HM1.out
  have FIN : Hid (∃ K : NodV, Value.agg ms.toArray = K.val ∧ riseL bb ⟨id, te, vo, lb, lt, lv, ⟨⟨sl, sp, sc, sk, sb⟩, sv⟩, ro, vv, nv, mv, cm, ⟨⟨ol, op, oc, ok, ob⟩, ov⟩⟩ K ∧ NodD n (V.setCells (w.heap.size + 1) 0 ms) w.heap.size K (riseD bb D) ∧ Below w.heap.size w (V.setCells (w.heap.size + 1) 0 ms)) := ⟨M, msv.symm, RL.out, (ND.out.chg GC.out (fun g h1 _ h2 => by omega)).low (by omega), B1.out.trans (GC.out.below (fun g _ hg => by omega) B1.out.size)⟩
  clear GC ND RL B1 Y2 X5
  go_wp2_with (first | (refine wpList_load_mid rfl 50 _ rfl B 0 rfl ms _ RG.out Tryz.underlying50 rfl HM1.out ?_) | (refine wpList_store_mid rfl 50 _ _ rfl (w.heap.size + 1) 0 ms.toArray rfl rfl TH2.out HM2.out mso ?_))
  generalize V.setCells (w.heap.size + 1) 0 ms = WF at *
  exact ⟨rfl, _, results_cell_row Tryz.results8 _ WF (w.heap.size + 1) 50 ms.toArray (0, 0) _ rfl XF.out Tryz.underlying50 rfl HM2.out, (by obtain ⟨K, e, r⟩ := FIN.out; exact ⟨K, by rw [e], r⟩)⟩
 ·have E := hid9 (empty_any n M D (w.heap.size + 2) c1 c2 c3 c4 c5 w1.heap.size w2 q1 q2 q3 q4 q5 (by omega) (by rw [← MA.out]; exact X5.out) (o1.below NBB.out) (MacI.below o2 NBB.out) (o3.below NBB.out) (o4.below NBB.out) (o5.below NBB.out) HS.out)
  have hz2 : Hid (c5 ≤ w2.heap.size) := by have := NBB.out.size; show _ ≤ _; omega
  clear b2 ra MA o1 o2 o3 o4 o5 o6 NB NBB ND0 Y1 HIN OK X5 msv msl mso
  generalize w1.heap.size = B at *
  go_wp2_with fail
  refine E.out.mono ?_
  rintro e V ⟨rfl, m, hB, p1, p2, p3, p4, p5, p6, gc⟩
  have ND : Hid (NodD n V (w.heap.size + 2) ⟨M.id, M.te, M.vo, M.lb, M.lt, M.lv, M.s, 0, M.vv, M.nv, M.mv, M.lb, m⟩ (riseD bb D)) := by
   show NodD _ _ _ _ _
   rw [hbb]
   exact rise_made q1 q2 q3 q4 q5 (by have := hz2.out; have := gc.size; omega) p1 p2 p3 p4 p5 p6
  have RL : Hid (riseL bb ⟨id, te, vo, lb, lt, lv, ⟨⟨sl, sp, sc, sk, sb⟩, sv⟩, ro, vv, nv, mv, cm, ⟨⟨ol, op, oc, ok, ob⟩, ov⟩⟩ ⟨M.id, M.te, M.vo, M.lb, M.lt, M.lv, M.s, 0, M.vv, M.nv, M.mv, M.lb, m⟩) := by
   obtain ⟨a1, a2, a3, a4, a5, a6, a7⟩ := LK.out
   show riseL _ _ _
   rw [hbb]
   exact ⟨a1, a2, a3, a4, a5, rfl, a4⟩
  replace Y2 := hid9 (row_chg Y2.out gc (fun e => by omega))
  replace B1 := hid9 (B1.out.trans (gc.below (fun g _ hg => by omega) B1.out.size))
  obtain ⟨ks, ksv, ksl, kso⟩ := ND.out.at.cells
  have X5 : Hid (V.heap[B]? = some (.cells ks.toArray 50 (0, 0))) := by
   have e2 := ksv
   simp only [NodV.val] at e2
   injection e2 with e3
   rw [← e3]
   exact hB
  clear hB p1 p2 p3 p4 p5 p6 gc E LK hz2
  have RG : Hid (V.rangeAt B 0 ks) := by have := range_of X5.out; rw [List.toList_toArray] at this; exact this
  have TH2 : Hid (V.there (w.heap.size + 1) 0 ks.toArray.size) := there_of Y2.out (show 23 = ks.toArray.size by rw [List.size_toArray, ksl])
  have GC : Hid (Chg (fun g => g = (w.heap.size + 1)) V (V.setCells (w.heap.size + 1) 0 ks)) := Chg.setCells (F := fun g => g = (w.heap.size + 1)) (g := (w.heap.size + 1)) (fun _ => rfl) ks 0 V (Chg.refl _ _)
  have XF : Hid ((V.setCells (w.heap.size + 1) 0 ks).heap[(w.heap.size + 1)]? = some (.cells ks.toArray 50 (0, 0))) := setAll_at Y2.out ks (by rw [ksl]; rfl)
  have HM1 : Hid ((Tryz.prog.info? 50).map (·.size) = some ks.length) := by show _ = _; rw [ksl]; kernel_rfl
  have HM2 : Hid ((Tryz.prog.info? 50).map (·.size) = some ks.toArray.size) := by show _ = _; rw [List.size_toArray]; exact HM1.out
  have FIN : Hid (∃ K : NodV, Value.agg ks.toArray = K.val ∧ riseL bb ⟨id, te, vo, lb, lt, lv, ⟨⟨sl, sp, sc, sk, sb⟩, sv⟩, ro, vv, nv, mv, cm, ⟨⟨ol, op, oc, ok, ob⟩, ov⟩⟩ K ∧ NodD n (V.setCells (w.heap.size + 1) 0 ks) w.heap.size K (riseD bb D) ∧ Below w.heap.size w (V.setCells (w.heap.size + 1) 0 ks)) := ⟨_, ksv.symm, RL.out, (ND.out.chg GC.out (fun g h1 _ h2 => by omega)).low (by omega), B1.out.trans (GC.out.below (fun g _ hg => by omega) B1.out.size)⟩
  clear GC ND RL B1 Y2 X5
  go_wp2_with (first | (refine wpList_load_mid rfl 50 _ rfl B 0 rfl ks _ RG.out Tryz.underlying50 rfl HM1.out ?_) | (refine wpList_store_mid rfl 50 _ _ rfl (w.heap.size + 1) 0 ks.toArray rfl rfl TH2.out HM2.out kso ?_))
  generalize V.setCells (w.heap.size + 1) 0 ks = WF at *
  exact ⟨rfl, _, results_cell_row Tryz.results8 _ WF (w.heap.size + 1) 50 ks.toArray (0, 0) _ rfl XF.out Tryz.underlying50 rfl HM2.out, (by obtain ⟨K, e, r⟩ := FIN.out; exact ⟨K, by rw [e], r⟩)⟩
end
end Go.Proofs.YtmdajbbpigbdcaaGreat
