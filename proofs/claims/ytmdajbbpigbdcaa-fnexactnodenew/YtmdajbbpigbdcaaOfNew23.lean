/-
  The laws' function that looks for marks in a node.
  The walk of the law FnExactNodeNew.
  What an argument that is a list of pairs holds: opened once into a row of cells.
-/
import Derived.Test.YtmdajbbpigbdcaaOfNew16
import Derived.Test.YtmdajbbpigbdcaaOfNew4
import Derived.Test.YtmdajbbpigbdcaaOfNew22
import Derived.Test.YtmdajbbpigbdcaaOfNew1
import Derived.ProofKit
import Derived.Deep.SlicePairs
namespace Go.Proofs.Ytmdajbbpigbdcaa
set_option maxRecDepth 100000
set_option maxHeartbeats 8000000
section
open Go.RowKit

theorem heldNode_m (n : Nat) (N : NodV) (D : Nd) (k : Int) (w : World) (h : NodAt n w N (markD n k D)) (hk0 : 0 ≤ k) (hk1 : markK n k D ≤ 67108864) :
  Calls Try.prog 9 #[N.val, .int .i64 k] w fun e w' => e = .returned (.int .i64 (markK n k D)) ∧ Below w.heap.size w w' := by
 unfold markK at *
 obtain ⟨id, te, vo, lb, lt, lv, ⟨⟨sl, sp, sc, sk, sb⟩, sv⟩, ro, vv, nv, mv, cm, ⟨⟨ol, op, oc, ok, ob⟩, ov⟩⟩ := N
 obtain ⟨l, T1, d1, vs, nx, mt, T2, d2⟩ := D
 obtain ⟨p1, p2, p3, p4, p5, p6⟩ := h
 simp only [markD] at hk1 p1 p2 p3 p4 p5 p6 ⊢
 rw [marksE_length] at p1
 rw [marksL_length] at p3
 rw [marksI_length] at p4 p5
 have P1 : Hid (∀ u, Below w.heap.size w u → Calls Try.prog 31 #[lgV lb lt lv, .int .i64 (k)] u fun e w' => e = .returned (.int .i64 (k + 6 * l.length)) ∧ Below u.heap.size u w') := fun u hu => heldLog_any lb lt lv l.length k u (p1.below hu) (by omega) hk0 (by omega)
 have P2 : Hid (∀ u, Below w.heap.size w u → Calls Try.prog 32 #[.agg #[.bool sl, sp, sc, sk, sb, sv], .int .i64 (k + 6 * l.length)] u fun e w' => e = .returned (.int .i64 (k + 6 * l.length + (mkT n T1 : Nat) + 4 * d1.length)) ∧ Below u.heap.size u w') := fun u hu => heldMachine_m n ⟨⟨sl, sp, sc, sk, sb⟩, sv⟩ T1 d1.length (k + 6 * l.length) u (p2.below hu) (by omega) (by omega)
 have P3 : Hid (∀ u, Below w.heap.size w u → Calls Try.prog 33 #[vv, .int .i64 (k + 6 * l.length + (mkT n T1 : Nat) + 4 * d1.length)] u fun e w' => e = .returned (.int .i64 (k + 6 * l.length + (mkT n T1 : Nat) + 4 * d1.length + vs.length)) ∧ w' = u) := fun u hu => heldBoolS_any vv vs.length _ u (p3.below hu) (by omega) (by omega) (by omega)
 have P4 : Hid (∀ u, Below w.heap.size w u → Calls Try.prog 34 #[nv, .int .i64 (k + 6 * l.length + (mkT n T1 : Nat) + 4 * d1.length + vs.length)] u fun e w' => e = .returned (.int .i64 (k + 6 * l.length + (mkT n T1 : Nat) + 4 * d1.length + vs.length + nx.length)) ∧ w' = u) := fun u hu => heldIntS_s nv nx.length _ u (p4.below hu) (by omega) (by omega) (by omega)
 have P5 : Hid (∀ u, Below w.heap.size w u → Calls Try.prog 34 #[mv, .int .i64 (k + 6 * l.length + (mkT n T1 : Nat) + 4 * d1.length + vs.length + nx.length)] u fun e w' => e = .returned (.int .i64 (k + 6 * l.length + (mkT n T1 : Nat) + 4 * d1.length + vs.length + nx.length + mt.length)) ∧ w' = u) := fun u hu => heldIntS_s mv mt.length _ u (p5.below hu) (by omega) (by omega) (by omega)
 have P6 : Hid (∀ u, Below w.heap.size w u → Calls Try.prog 32 #[.agg #[.bool ol, op, oc, ok, ob, ov], .int .i64 (k + 6 * l.length + (mkT n T1 : Nat) + 4 * d1.length + vs.length + nx.length + mt.length)] u fun e w' => e = .returned (.int .i64 (k + 6 * l.length + (mkT n T1 : Nat) + 4 * d1.length + vs.length + nx.length + mt.length + (mkT n T2 : Nat) + 4 * d2.length)) ∧ Below u.heap.size u w') := fun u hu => heldMachine_m n ⟨⟨ol, op, oc, ok, ob⟩, ov⟩ T2 d2.length (k + 6 * l.length + (mkT n T1 : Nat) + 4 * d1.length + vs.length + nx.length + mt.length) u (p6.below hu) (by omega) (by omega)
 have y1 : ¬ (k + 6 * l.length < 0) := by omega
 have y2 : ¬ (k + 6 * l.length + (mkT n T1 : Nat) + 4 * d1.length < 0) := by omega
 have y3 : ¬ (k + 6 * l.length + (mkT n T1 : Nat) + 4 * d1.length + vs.length < 0) := by omega
 have y4 : ¬ (k + 6 * l.length + (mkT n T1 : Nat) + 4 * d1.length + vs.length + nx.length < 0) := by omega
 have y5 : ¬ (k + 6 * l.length + (mkT n T1 : Nat) + 4 * d1.length + vs.length + nx.length + mt.length < 0) := by omega
 have y6 : ¬ (k + 6 * l.length + (mkT n T1 : Nat) + 4 * d1.length + vs.length + nx.length + mt.length + (mkT n T2 : Nat) + 4 * d2.length < 0) := by omega
 generalize hq6 : k + 6 * l.length + (mkT n T1 : Nat) + 4 * d1.length + vs.length + nx.length + mt.length + (mkT n T2 : Nat) + 4 * d2.length = r6 at *
 generalize hq5 : k + 6 * l.length + (mkT n T1 : Nat) + 4 * d1.length + vs.length + nx.length + mt.length = r5 at *
 generalize hq4 : k + 6 * l.length + (mkT n T1 : Nat) + 4 * d1.length + vs.length + nx.length = r4 at *
 generalize hq3 : k + 6 * l.length + (mkT n T1 : Nat) + 4 * d1.length + vs.length = r3 at *
 generalize hq2 : k + 6 * l.length + (mkT n T1 : Nat) + 4 * d1.length = r2 at *
 generalize hq1 : k + 6 * l.length = r1 at *
 clear hq1 hq2 hq3 hq4 hq5 hq6 hk0 hk1 p1 p2 p3 p4 p5 p6
 have B1 : Hid (Below w.heap.size w (w.alloc (.cells #[.int .i64 id, .int .i64 te, .int .i64 vo, .int .i64 lb, .int .i64 lt, lv, .bool sl, sp, sc, sk, sb, sv, .int .i64 ro, vv, nv, mv, .int .i64 cm, .bool ol, op, oc, ok, ob, ov] 36))) := bel_nw _ _
 have N1 : Hid ((w.alloc (.cells #[.int .i64 id, .int .i64 te, .int .i64 vo, .int .i64 lb, .int .i64 lt, lv, .bool sl, sp, sc, sk, sb, sv, .int .i64 ro, vv, nv, mv, .int .i64 cm, .bool ol, op, oc, ok, ob, ov] 36)).heap[w.heap.size]? = some (.cells #[.int .i64 id, .int .i64 te, .int .i64 vo, .int .i64 lb, .int .i64 lt, lv, .bool sl, sp, sc, sk, sb, sv, .int .i64 ro, vv, nv, mv, .int .i64 cm, .bool ol, op, oc, ok, ob, ov] 36 (0, 0))) := MBox.start 36 w #[.int .i64 id, .int .i64 te, .int .i64 vo, .int .i64 lb, .int .i64 lt, lv, .bool sl, sp, sc, sk, sb, sv, .int .i64 ro, vv, nv, mv, .int .i64 cm, .bool ol, op, oc, ok, ob, ov]
 have c1 := fun j => cell_of_cells (j := j) N1.out
 show Calls Try.prog 9 #[.agg #[.int .i64 id, .int .i64 te, .int .i64 vo, .int .i64 lb, .int .i64 lt, lv, .bool sl, sp, sc, sk, sb, sv, .int .i64 ro, vv, nv, mv, .int .i64 cm, .bool ol, op, oc, ok, ob, ov], .int .i64 k] w _
 go_enter Try.func9, Try.ntmps9
 go_wp2_with fail
 generalize w.alloc (.cells #[.int .i64 id, .int .i64 te, .int .i64 vo, .int .i64 lb, .int .i64 lt, lv, .bool sl, sp, sc, sk, sb, sv, .int .i64 ro, vv, nv, mv, .int .i64 cm, .bool ol, op, oc, ok, ob, ov] 36) = W at *
 refine (P1.out _ B1.out).mono ?_
 rintro e w1 ⟨rfl, b⟩
 replace B1 := hid9c (Below.and B1.out b)
 replace N1 := hid9c (step_at N1.out b)
 clear b c1
 have c1 := fun j => cell_of_cells (j := j) N1.out
 go_wp2_with fail
 refine (P2.out _ B1.out).mono ?_
 rintro e w2 ⟨rfl, b⟩
 replace B1 := hid9c (Below.and B1.out b)
 replace N1 := hid9c (step_at N1.out b)
 clear b c1
 have c1 := fun j => cell_of_cells (j := j) N1.out
 go_wp2_with fail
 refine (P3.out _ B1.out).mono ?_
 rintro e w3 ⟨rfl, hw3⟩
 subst hw3
 go_wp2_with fail
 refine (P4.out _ B1.out).mono ?_
 rintro e w4 ⟨rfl, hw4⟩
 subst hw4
 go_wp2_with fail
 refine (P5.out _ B1.out).mono ?_
 rintro e w5 ⟨rfl, hw5⟩
 subst hw5
 go_wp2_with fail
 refine (P6.out _ B1.out).mono ?_
 rintro e w6 ⟨rfl, b⟩
 replace B1 := hid9c (Below.and B1.out b)
 replace N1 := hid9c (step_at N1.out b)
 clear b c1
 have c1 := fun j => cell_of_cells (j := j) N1.out
 go_wp2
 go_ret
 exact ⟨rfl, B1.out⟩
end
section
open Go.RowKit

theorem fnExactNodeNew_any (id size : Int) (w : World) :
  Calls Try.prog 3 #[.int .i64 id, .int .i64 size] w fun e w' => e = .returned (.bool true) ∧ Below w.heap.size w w' := by
 have SM : Hid ((newD (nnB id size) size.toNat).small 1) := by
  show Nd.small _ _
  cases h : nnB id size
  ·exact zero_small
  ·unfold nnB at h
   simp only [Bool.and_eq_true] at h
   have := inB_iff.1 h.1
   exact newD_small true (by omega)
 have SP1 : Hid (∀ u, Calls Try.prog 5 #[.int .i64 id, .int .i64 size] u fun e w' => ∃ K : NodV, e = .returned (.tuple #[K.val, .bool (nnB id size)]) ∧ (newV (nnB id size) id).like K ∧ NodAt 1 w' K (newD (nnB id size) size.toNat) ∧ Below u.heap.size u w') := fun u => specNodeNew_any id size u
 have IP1 : Hid (∀ u, Calls Try.prog 6 #[.int .i64 id, .int .i64 size] u fun e w' => ∃ K : NodV, e = .returned (.tuple #[K.val, .bool (nnB id size)]) ∧ (newV (nnB id size) id).like K ∧ NodAt 1 w' K (newD (nnB id size) size.toNat) ∧ MkN 1 w' u.heap.size w'.heap.size K (newD (nnB id size) size.toNat) ∧ Below u.heap.size u w') := fun u => implNodeNew_any id size u
 have EQ1 : Hid (∀ u K K', (newV (nnB id size) id).like K → (newV (nnB id size) id).like K' → NodAt 1 u K (newD (nnB id size) size.toNat) → NodAt 1 u K' (newD (nnB id size) size.toNat) → Calls Try.prog 7 #[K.val, K'.val] u fun e w' => e = .returned (.bool true) ∧ Below u.heap.size u w') := fun u K K' h1 h2 h3 h4 => eqNode_any 1 K K' _ u (h1.both h2) h3 h4
 have HD1 : Hid (∀ u K, NodAt 1 u K (markD 1 1 (newD (nnB id size) size.toNat)) → Calls Try.prog 9 #[K.val, .int .i64 1] u fun e w' => e = .returned (.int .i64 (markK 1 1 (newD (nnB id size) size.toNat))) ∧ Below u.heap.size u w') := fun u K hm => heldNode_m 1 K _ 1 u hm (by omega) (markK_sm SM.out).1
 have km := (markK_sm SM.out).2
 unfold MkN at IP1
 generalize markK 1 1 (newD (nnB id size) size.toNat) = mg at *
 generalize markD 1 1 (newD (nnB id size) size.toNat) = DM at *
 generalize newD (nnB id size) size.toNat = DD at *
 generalize (newV (nnB id size) id).like = RL at *
 generalize nnB id size = bf at *
 have hbb : (bf != bf) = false := by cases bf <;> rfl
 have hmm : (mg != mg) = false := by simp
 have B1 : Hid (Below w.heap.size w w) := Below.refl _ _
 clear SM
 go_enter Try.func3, Try.ntmps3
 go_wp2_with fail
 refine (SP1.out w).mono ?_
 rintro e w3 ⟨KW, rfl, lkw, tw, b3⟩
 replace B1 := hid9 (Below.and B1.out b3)
 have z3 := b3.size
 have LKW := hid9 lkw
 clear b3 SP1
 obtain ⟨ws, wsv, wsl, wso⟩ := tw.cells
 have wsh : Hid ((Try.prog.info? 36).map (·.size) = some ws.length) := by show _ = _; rw [wsl]; kernel_rfl
 have wsk : Hid ((Try.prog.info? 36).map (·.size) = some ws.toArray.size) := by show _ = _; rw [List.size_toArray]; exact wsh.out
 have NA := newAll (w := w3) (t := 36) (A := #[.int .i64 0, .int .i64 0, .int .i64 0, .int .i64 0, .int .i64 0, .slice none 0 0, .bool false, .slice none 0 0, .slice none 0 0, .slice none 0 0, .slice none 0 0, .slice none 0 0, .int .i64 0, .slice none 0 0, .slice none 0 0, .slice none 0 0, .int .i64 0, .bool false, .slice none 0 0, .slice none 0 0, .slice none 0 0, .slice none 0 0, .slice none 0 0]) (vs := ws) wsl.symm
 have TH : Hid (World.there (w3.alloc (.cells #[.int .i64 0, .int .i64 0, .int .i64 0, .int .i64 0, .int .i64 0, .slice none 0 0, .bool false, .slice none 0 0, .slice none 0 0, .slice none 0 0, .slice none 0 0, .slice none 0 0, .int .i64 0, .slice none 0 0, .slice none 0 0, .slice none 0 0, .int .i64 0, .bool false, .slice none 0 0, .slice none 0 0, .slice none 0 0, .slice none 0 0, .slice none 0 0] 36)) w3.heap.size 0 ws.toArray.size) := there_of (heap_alloc_new w3 _) (show 23 = ws.toArray.size by rw [List.size_toArray, wsl])
 have SZws : w3.heap.size + 1 ≤ ((w3.alloc (.cells #[.int .i64 0, .int .i64 0, .int .i64 0, .int .i64 0, .int .i64 0, .slice none 0 0, .bool false, .slice none 0 0, .slice none 0 0, .slice none 0 0, .slice none 0 0, .slice none 0 0, .int .i64 0, .slice none 0 0, .slice none 0 0, .slice none 0 0, .int .i64 0, .bool false, .slice none 0 0, .slice none 0 0, .slice none 0 0, .slice none 0 0, .slice none 0 0] 36)).setCells w3.heap.size 0 ws).heap.size := by have := (Chg.setCells (F := fun _ => True) (g := w3.heap.size) (fun _ => trivial) ws 0 _ (Chg.refl _ (w3.alloc (.cells #[.int .i64 0, .int .i64 0, .int .i64 0, .int .i64 0, .int .i64 0, .slice none 0 0, .bool false, .slice none 0 0, .slice none 0 0, .slice none 0 0, .slice none 0 0, .slice none 0 0, .int .i64 0, .slice none 0 0, .slice none 0 0, .slice none 0 0, .int .i64 0, .bool false, .slice none 0 0, .slice none 0 0, .slice none 0 0, .slice none 0 0, .slice none 0 0] 36)))).size; simpa using this
 have Xws := hid9 NA.2
 have wsV := hid9 wsv
 replace B1 := hid9 (Below.and B1.out NA.1)
 rw [wsv]
 have NAV := hid9 NA.1
 clear NA wsv wsl
 go_upto_region 2 with (refine wpList_store_mid rfl 36 _ _ rfl w3.heap.size 0 ws.toArray rfl rfl TH.out wsk.out wso ?_)
 clear TH wso wsk
 generalize (w3.alloc (.cells #[.int .i64 0, .int .i64 0, .int .i64 0, .int .i64 0, .int .i64 0, .slice none 0 0, .bool false, .slice none 0 0, .slice none 0 0, .slice none 0 0, .slice none 0 0, .slice none 0 0, .int .i64 0, .slice none 0 0, .slice none 0 0, .slice none 0 0, .int .i64 0, .bool false, .slice none 0 0, .slice none 0 0, .slice none 0 0, .slice none 0 0, .slice none 0 0] 36)).setCells w3.heap.size 0 ws = V4 at *
 have TW := hid9 tw
 clear tw lkw
 have BV : Hid (Below w3.heap.size w3 V4) := NAV.out
 go_wp2_with fail
 refine (IP1.out V4).mono ?_
 rintro e w7 ⟨KG, rfl, lkg, tg, mk, b7⟩
 replace B1 := hid9 (Below.and B1.out b7)
 replace Xws := hid9 (step_at Xws.out b7)
 replace BV := hid9 (Below.and BV.out b7)
 have z7 := b7.size
 have LKG := hid9 lkg
 have GN := hid9 tg
 have MKG := hid9 mk
 clear b7 lkg NAV mk
 obtain ⟨gs, gsv, gsl, gso⟩ := tg.cells
 have gsh : Hid ((Try.prog.info? 36).map (·.size) = some gs.length) := by show _ = _; rw [gsl]; kernel_rfl
 have gsk : Hid ((Try.prog.info? 36).map (·.size) = some gs.toArray.size) := by show _ = _; rw [List.size_toArray]; exact gsh.out
 have NA := newAll (w := w7) (t := 36) (A := #[.int .i64 0, .int .i64 0, .int .i64 0, .int .i64 0, .int .i64 0, .slice none 0 0, .bool false, .slice none 0 0, .slice none 0 0, .slice none 0 0, .slice none 0 0, .slice none 0 0, .int .i64 0, .slice none 0 0, .slice none 0 0, .slice none 0 0, .int .i64 0, .bool false, .slice none 0 0, .slice none 0 0, .slice none 0 0, .slice none 0 0, .slice none 0 0]) (vs := gs) gsl.symm
 have TH : Hid (World.there (w7.alloc (.cells #[.int .i64 0, .int .i64 0, .int .i64 0, .int .i64 0, .int .i64 0, .slice none 0 0, .bool false, .slice none 0 0, .slice none 0 0, .slice none 0 0, .slice none 0 0, .slice none 0 0, .int .i64 0, .slice none 0 0, .slice none 0 0, .slice none 0 0, .int .i64 0, .bool false, .slice none 0 0, .slice none 0 0, .slice none 0 0, .slice none 0 0, .slice none 0 0] 36)) w7.heap.size 0 gs.toArray.size) := there_of (heap_alloc_new w7 _) (show 23 = gs.toArray.size by rw [List.size_toArray, gsl])
 have SZgs : w7.heap.size + 1 ≤ ((w7.alloc (.cells #[.int .i64 0, .int .i64 0, .int .i64 0, .int .i64 0, .int .i64 0, .slice none 0 0, .bool false, .slice none 0 0, .slice none 0 0, .slice none 0 0, .slice none 0 0, .slice none 0 0, .int .i64 0, .slice none 0 0, .slice none 0 0, .slice none 0 0, .int .i64 0, .bool false, .slice none 0 0, .slice none 0 0, .slice none 0 0, .slice none 0 0, .slice none 0 0] 36)).setCells w7.heap.size 0 gs).heap.size := by have := (Chg.setCells (F := fun _ => True) (g := w7.heap.size) (fun _ => trivial) gs 0 _ (Chg.refl _ (w7.alloc (.cells #[.int .i64 0, .int .i64 0, .int .i64 0, .int .i64 0, .int .i64 0, .slice none 0 0, .bool false, .slice none 0 0, .slice none 0 0, .slice none 0 0, .slice none 0 0, .slice none 0 0, .int .i64 0, .slice none 0 0, .slice none 0 0, .slice none 0 0, .int .i64 0, .bool false, .slice none 0 0, .slice none 0 0, .slice none 0 0, .slice none 0 0, .slice none 0 0] 36)))).size; simpa using this
 have Xgs := hid9 NA.2
 have gsV := hid9 gsv
 replace B1 := hid9 (Below.and B1.out NA.1)
 replace Xws := hid9 (step_at Xws.out NA.1)
 replace BV := hid9 (Below.and BV.out NA.1)
 replace GN := hid9 (GN.out.below NA.1)
 rw [gsv]
 have NAV := hid9 NA.1
 clear NA gsv gsl
 go_upto_region 3 with (refine wpList_store_mid rfl 36 _ _ rfl w7.heap.size 0 gs.toArray rfl rfl TH.out gsk.out gso ?_)
 clear TH gso gsk
 generalize (w7.alloc (.cells #[.int .i64 0, .int .i64 0, .int .i64 0, .int .i64 0, .int .i64 0, .slice none 0 0, .bool false, .slice none 0 0, .slice none 0 0, .slice none 0 0, .slice none 0 0, .slice none 0 0, .int .i64 0, .slice none 0 0, .slice none 0 0, .slice none 0 0, .int .i64 0, .bool false, .slice none 0 0, .slice none 0 0, .slice none 0 0, .slice none 0 0, .slice none 0 0] 36)).setCells w7.heap.size 0 gs = V8 at *
 clear tg
 have BG : Hid (Below w7.heap.size w7 V8) := NAV.out
 clear NAV
 have rg := range_of Xgs.out
 rw [List.toList_toArray] at rg
 have rw := range_of Xws.out
 rw [List.toList_toArray] at rw
 have EQ : Hid (Calls Try.prog 7 #[.agg gs.toArray, .agg ws.toArray] V8 fun e w' => e = .returned (.bool true) ∧ Below V8.heap.size V8 w') := by
  have := EQ1.out V8 KG KW LKG.out LKW.out GN.out (TW.out.below BV.out)
  rw [gsV.out, wsV.out] at this
  exact this
 go_wp2_with (first | (refine wpList_load_g (by rfl) 36 _ rfl w7.heap.size 0 rfl gs _ rg Try.underlying36 rfl gsh.out ?_) | (refine wpList_load_g (by rfl) 36 _ rfl w3.heap.size 0 rfl ws _ rw Try.underlying36 rfl wsh.out ?_))
 refine EQ.out.mono ?_
 rintro e wc ⟨rfl, bc⟩
 replace B1 := hid9 (Below.and B1.out bc)
 replace Xws := hid9 (step_at Xws.out bc)
 replace BV := hid9 (Below.and BV.out bc)
 replace GN := hid9 (GN.out.below bc)
 replace Xgs := hid9 (step_at Xgs.out bc)
 replace BG := hid9 (Below.and BG.out bc)
 have zbc := bc.size
 clear bc rg rw EQ
 have rg := range_of Xgs.out
 rw [List.toList_toArray] at rg
 have MK : Hid (Calls Try.prog 8 #[.agg gs.toArray, .int .i64 1] wc fun e w' => e = .returned (.int .i64 mg) ∧ NodAt 1 w' KG DM ∧ Chg (fun g => V4.heap.size ≤ g ∧ g < w7.heap.size) wc w') := by
  have := MKG.out wc BG.out
  rw [gsV.out] at this
  exact this
 go_wp2_with (refine wpList_load_g (by rfl) 36 _ rfl w7.heap.size 0 rfl gs _ rg Try.underlying36 rfl gsh.out ?_)
 refine MK.out.mono ?_
 rintro e wd ⟨rfl, gm, gd⟩
 clear GN rg MK MKG BG
 replace B1 := hid9 (B1.out.trans (gd.below (fun g _ e => by omega) B1.out.size))
 replace Xws := hid9 (row_chg Xws.out gd (fun e => by omega))
 replace BV := hid9 (BV.out.trans (gd.below (fun g _ e => by omega) BV.out.size))
 replace Xgs := hid9 (row_chg Xgs.out gd (fun e => by omega))
 have zd := gd.size
 have GM := hid9 gm
 clear gd gm
 have rg := range_of Xgs.out
 rw [List.toList_toArray] at rg
 have HE : Hid (Calls Try.prog 9 #[.agg gs.toArray, .int .i64 1] wd fun e w' => e = .returned (.int .i64 mg) ∧ Below wd.heap.size wd w') := by
  have := HD1.out wd KG GM.out
  rw [gsV.out] at this
  exact this
 go_wp2_with (refine wpList_load_g (by rfl) 36 _ rfl w7.heap.size 0 rfl gs _ rg Try.underlying36 rfl gsh.out ?_)
 refine HE.out.mono ?_
 rintro e we ⟨rfl, be⟩
 replace B1 := hid9 (Below.and B1.out be)
 replace Xws := hid9 (step_at Xws.out be)
 replace BV := hid9 (Below.and BV.out be)
 replace Xgs := hid9 (step_at Xgs.out be)
 replace GM := hid9 (GM.out.below be)
 have zbe := be.size
 clear be rg HE
 go_wp2_with fail
 refine (IP1.out we).mono ?_
 rintro e wg ⟨KH, rfl, lkk, tk, mk, bg⟩
 replace B1 := hid9 (Below.and B1.out bg)
 replace Xws := hid9 (step_at Xws.out bg)
 replace BV := hid9 (Below.and BV.out bg)
 replace Xgs := hid9 (step_at Xgs.out bg)
 replace GM := hid9 (GM.out.below bg)
 have zg := bg.size
 have LKH := hid9 lkk
 have HN := hid9 tk
 clear bg lkk mk IP1
 obtain ⟨hs, hsv, hsl, hso⟩ := tk.cells
 have hsh : Hid ((Try.prog.info? 36).map (·.size) = some hs.length) := by show _ = _; rw [hsl]; kernel_rfl
 have hsk : Hid ((Try.prog.info? 36).map (·.size) = some hs.toArray.size) := by show _ = _; rw [List.size_toArray]; exact hsh.out
 have NA := newAll (w := wg) (t := 36) (A := #[.int .i64 0, .int .i64 0, .int .i64 0, .int .i64 0, .int .i64 0, .slice none 0 0, .bool false, .slice none 0 0, .slice none 0 0, .slice none 0 0, .slice none 0 0, .slice none 0 0, .int .i64 0, .slice none 0 0, .slice none 0 0, .slice none 0 0, .int .i64 0, .bool false, .slice none 0 0, .slice none 0 0, .slice none 0 0, .slice none 0 0, .slice none 0 0]) (vs := hs) hsl.symm
 have TH : Hid (World.there (wg.alloc (.cells #[.int .i64 0, .int .i64 0, .int .i64 0, .int .i64 0, .int .i64 0, .slice none 0 0, .bool false, .slice none 0 0, .slice none 0 0, .slice none 0 0, .slice none 0 0, .slice none 0 0, .int .i64 0, .slice none 0 0, .slice none 0 0, .slice none 0 0, .int .i64 0, .bool false, .slice none 0 0, .slice none 0 0, .slice none 0 0, .slice none 0 0, .slice none 0 0] 36)) wg.heap.size 0 hs.toArray.size) := there_of (heap_alloc_new wg _) (show 23 = hs.toArray.size by rw [List.size_toArray, hsl])
 have SZhs : wg.heap.size + 1 ≤ ((wg.alloc (.cells #[.int .i64 0, .int .i64 0, .int .i64 0, .int .i64 0, .int .i64 0, .slice none 0 0, .bool false, .slice none 0 0, .slice none 0 0, .slice none 0 0, .slice none 0 0, .slice none 0 0, .int .i64 0, .slice none 0 0, .slice none 0 0, .slice none 0 0, .int .i64 0, .bool false, .slice none 0 0, .slice none 0 0, .slice none 0 0, .slice none 0 0, .slice none 0 0] 36)).setCells wg.heap.size 0 hs).heap.size := by have := (Chg.setCells (F := fun _ => True) (g := wg.heap.size) (fun _ => trivial) hs 0 _ (Chg.refl _ (wg.alloc (.cells #[.int .i64 0, .int .i64 0, .int .i64 0, .int .i64 0, .int .i64 0, .slice none 0 0, .bool false, .slice none 0 0, .slice none 0 0, .slice none 0 0, .slice none 0 0, .slice none 0 0, .int .i64 0, .slice none 0 0, .slice none 0 0, .slice none 0 0, .int .i64 0, .bool false, .slice none 0 0, .slice none 0 0, .slice none 0 0, .slice none 0 0, .slice none 0 0] 36)))).size; simpa using this
 have Xhs := hid9 NA.2
 have hsV := hid9 hsv
 replace B1 := hid9 (Below.and B1.out NA.1)
 replace Xws := hid9 (step_at Xws.out NA.1)
 replace BV := hid9 (Below.and BV.out NA.1)
 replace Xgs := hid9 (step_at Xgs.out NA.1)
 replace GM := hid9 (GM.out.below NA.1)
 replace HN := hid9 (HN.out.below NA.1)
 rw [hsv]
 have NAV := hid9 NA.1
 clear NA hsv hsl
 go_upto_region 14 with (refine wpList_store_mid rfl 36 _ _ rfl wg.heap.size 0 hs.toArray rfl rfl TH.out hsk.out hso ?_)
 clear TH hso hsk
 generalize (wg.alloc (.cells #[.int .i64 0, .int .i64 0, .int .i64 0, .int .i64 0, .int .i64 0, .slice none 0 0, .bool false, .slice none 0 0, .slice none 0 0, .slice none 0 0, .slice none 0 0, .slice none 0 0, .int .i64 0, .slice none 0 0, .slice none 0 0, .slice none 0 0, .int .i64 0, .bool false, .slice none 0 0, .slice none 0 0, .slice none 0 0, .slice none 0 0, .slice none 0 0] 36)).setCells wg.heap.size 0 hs = Vh at *
 clear tk NAV
 have rg := range_of Xhs.out
 rw [List.toList_toArray] at rg
 have rw := range_of Xws.out
 rw [List.toList_toArray] at rw
 have EQ : Hid (Calls Try.prog 7 #[.agg hs.toArray, .agg ws.toArray] Vh fun e w' => e = .returned (.bool true) ∧ Below Vh.heap.size Vh w') := by
  have := EQ1.out Vh KH KW LKH.out LKW.out HN.out (TW.out.below BV.out)
  rw [hsV.out, wsV.out] at this
  exact this
 go_wp2_with (first | (refine wpList_load_g (by rfl) 36 _ rfl wg.heap.size 0 rfl hs _ rg Try.underlying36 rfl hsh.out ?_) | (refine wpList_load_g (by rfl) 36 _ rfl w3.heap.size 0 rfl ws _ rw Try.underlying36 rfl wsh.out ?_))
 refine EQ.out.mono ?_
 rintro e wi ⟨rfl, bi⟩
 replace B1 := hid9 (Below.and B1.out bi)
 replace Xws := hid9 (step_at Xws.out bi)
 replace BV := hid9 (Below.and BV.out bi)
 replace Xgs := hid9 (step_at Xgs.out bi)
 replace GM := hid9 (GM.out.below bi)
 replace HN := hid9 (HN.out.below bi)
 replace Xhs := hid9 (step_at Xhs.out bi)
 have zbi := bi.size
 clear bi rg rw EQ
 have rg := range_of Xgs.out
 rw [List.toList_toArray] at rg
 have HE : Hid (Calls Try.prog 9 #[.agg gs.toArray, .int .i64 1] wi fun e w' => e = .returned (.int .i64 mg) ∧ Below wi.heap.size wi w') := by
  have := HD1.out wi KG GM.out
  rw [gsV.out] at this
  exact this
 go_wp2_with (refine wpList_load_g (by rfl) 36 _ rfl w7.heap.size 0 rfl gs _ rg Try.underlying36 rfl gsh.out ?_)
 refine HE.out.mono ?_
 rintro e wj ⟨rfl, bj⟩
 replace B1 := hid9 (Below.and B1.out bj)
 replace Xws := hid9 (step_at Xws.out bj)
 replace BV := hid9 (Below.and BV.out bj)
 replace Xgs := hid9 (step_at Xgs.out bj)
 replace GM := hid9 (GM.out.below bj)
 replace HN := hid9 (HN.out.below bj)
 replace Xhs := hid9 (step_at Xhs.out bj)
 have zbj := bj.size
 clear bj rg HE
 go_wp2
 go_ret
 exact ⟨rfl, B1.out⟩
end
section
open Go.ChangeShapes Go.WideShapes Go.ChangeAt Go.RowKit Go.Deep

theorem Try.own : ownKnob Try.prog.godebug = none := by kernel_rfl
theorem Try.laidOut : laidOutB Try.prog = true := by kernel_rfl
end
end Go.Proofs.Ytmdajbbpigbdcaa
