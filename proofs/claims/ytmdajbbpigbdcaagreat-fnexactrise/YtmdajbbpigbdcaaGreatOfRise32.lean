/-
  The model's Rise.
-/
import Derived.Test.YtmdajbbpigbdcaaGreatOfRise23
import Derived.Test.YtmdajbbpigbdcaaGreatOfRise30
import Derived.Test.YtmdajbbpigbdcaaGreatOfRise28
import Derived.Test.YtmdajbbpigbdcaaGreatOfRise29
import Derived.Test.YtmdajbbpigbdcaaGreatOfRise31
namespace Go.Proofs.YtmdajbbpigbdcaaGreat
set_option maxRecDepth 100000
set_option maxHeartbeats 8000000
section
open Go.RowKit

theorem nodeOkB_sizes {N : NodV} {D : Nd} {size : Int} (h : nodeOkB N D size = true) : (D.vs.length : Int) = size ∧ (D.nx.length : Int) = size ∧ (D.mt.length : Int) = size ∧ size ≤ 5 := by
 unfold nodeOkB nodeP at h
 simp only [Bool.and_eq_true, decide_eq_true_eq] at h
 obtain ⟨h1, h2, h3, h4, h5, h6, h7, h8, h9, h10, h11, h12, h13⟩ := h
 exact ⟨h10, h11, h12, (inB_iff.1 h1).2⟩
def RS (w w1 : World) (A C : Array Value) (u : World) : Prop := Below w.heap.size w u ∧ Below w1.heap.size w1 u ∧ w.heap.size + 2 ≤ w1.heap.size ∧ w1.heap.size + 1 ≤ u.heap.size ∧ u.heap[w.heap.size]? = some (.cells A 50 (0, 0)) ∧ u.heap[(w.heap.size + 1)]? = some (.cells #[.int .i64 0, .int .i64 0, .int .i64 0, .int .i64 0, .int .i64 0, .slice none 0 0, .bool false, .slice none 0 0, .slice none 0 0, .slice none 0 0, .slice none 0 0, .slice none 0 0, .int .i64 0, .slice none 0 0, .slice none 0 0, .slice none 0 0, .int .i64 0, .bool false, .slice none 0 0, .slice none 0 0, .slice none 0 0, .slice none 0 0, .slice none 0 0] 50 (0, 0)) ∧ u.heap[w1.heap.size]? = some (.cells C 50 (0, 0))
theorem RS.step {w w1 u u' : World} {A C : Array Value} (h : RS w w1 A C u) (hb : Below u.heap.size u u') : RS w w1 A C u' := ⟨Below.and h.1 hb, Below.and h.2.1 hb, h.2.2.1, Nat.le_trans h.2.2.2.1 hb.size, step_at h.2.2.2.2.1 hb, step_at h.2.2.2.2.2.1 hb, step_at h.2.2.2.2.2.2 hb⟩
theorem RS.sets {w w1 u u' : World} {A C C' : Array Value} (h : RS w w1 A C u) (hc : Chg (fun g => g = w1.heap.size) u u') (h2 : u'.heap[w1.heap.size]? = some (.cells C' 50 (0, 0))) : RS w w1 A C' u' := by
 have hz := h.2.2.1
 have hy := h.2.1.size
 exact ⟨h.1.trans (hc.below (fun g _ hg => by omega) h.1.size), h.2.1.trans (hc.below (fun g _ hg => by omega) h.2.1.size), h.2.2.1, Nat.le_trans h.2.2.2.1 hc.size, row_chg h.2.2.2.2.1 hc (by omega), row_chg h.2.2.2.2.2.1 hc (by omega), h2⟩

theorem flatL_rep (k : Nat) : flatL (List.replicate k false) = List.replicate k (.bool false) := by simp [flatL]
theorem flatI_rep (k : Nat) : flatI (List.replicate k 0) = List.replicate k (.int .i64 0) := by simp [flatI]

theorem specRise_no (n : Nat) (N : NodV) (D : Nd) (size : Int) (w : World) (h : NodAt n w N D) (hs : D.small n) (hbb : nodeOkB N D size = false) :
  Calls Tryz.prog 6 #[N.val, .int .i64 size] w fun e w' => ∃ K : NodV, e = .returned K.val ∧ N.like K ∧ NodAt n w' K D ∧ Below w.heap.size w w' := by
 have CP : Hid (∀ u, Below w.heap.size w u → Calls Tryz.prog 21 #[N.val] u fun e w' => ∃ M : NodV, e = .returned M.val ∧ N.like M ∧ NodB n w' u.heap.size M D ∧ Below u.heap.size u w') := fun u hu => l9Copy_any n N D u (h.below hu) hs
 have OK : Hid (∀ u, Below w.heap.size w u → Calls Tryz.prog 22 #[N.val, .int .i64 size] u fun e w' => e = .returned (.bool false) ∧ Below u.heap.size u w') := fun u hu => by
  have := specNodeOk_any n N D size u (h.below hu) hs
  rw [hbb] at this
  exact this
 have HS := hid9 hs
 have HH := hid9 h
 clear h hs hbb
 obtain ⟨id, te, vo, lb, lt, lv, ⟨⟨sl, sp, sc, sk, sb⟩, sv⟩, ro, vv, nv, mv, cm, ⟨⟨ol, op, oc, ok, ob⟩, ov⟩⟩ := N
 replace CP : Hid (∀ u, Below w.heap.size w u → Calls Tryz.prog 21 #[.agg #[.int .i64 id, .int .i64 te, .int .i64 vo, .int .i64 lb, .int .i64 lt, lv, .bool sl, sp, sc, sk, sb, sv, .int .i64 ro, vv, nv, mv, .int .i64 cm, .bool ol, op, oc, ok, ob, ov]] u fun e w' => ∃ M : NodV, e = .returned M.val ∧ NodV.like ⟨id, te, vo, lb, lt, lv, ⟨⟨sl, sp, sc, sk, sb⟩, sv⟩, ro, vv, nv, mv, cm, ⟨⟨ol, op, oc, ok, ob⟩, ov⟩⟩ M ∧ NodB n w' u.heap.size M D ∧ Below u.heap.size u w') := CP
 replace OK : Hid (∀ u, Below w.heap.size w u → Calls Tryz.prog 22 #[.agg #[.int .i64 id, .int .i64 te, .int .i64 vo, .int .i64 lb, .int .i64 lt, lv, .bool sl, sp, sc, sk, sb, sv, .int .i64 ro, vv, nv, mv, .int .i64 cm, .bool ol, op, oc, ok, ob, ov], .int .i64 size] u fun e w' => e = .returned (.bool false) ∧ Below u.heap.size u w') := OK
 have HI : Hid ((Tryz.prog.info? 50).map (·.size) = some (List.length ([.int .i64 id, .int .i64 te, .int .i64 vo, .int .i64 lb, .int .i64 lt, lv, .bool sl, sp, sc, sk, sb, sv, .int .i64 ro, vv, nv, mv, .int .i64 cm, .bool ol, op, oc, ok, ob, ov] : List Value))) := (show (Tryz.prog.info? 50).map (·.size) = some 23 by kernel_rfl)
 have B1 : Hid (Below w.heap.size w ((w.alloc (.cells #[.int .i64 id, .int .i64 te, .int .i64 vo, .int .i64 lb, .int .i64 lt, lv, .bool sl, sp, sc, sk, sb, sv, .int .i64 ro, vv, nv, mv, .int .i64 cm, .bool ol, op, oc, ok, ob, ov] 50)).alloc (.cells #[.int .i64 0, .int .i64 0, .int .i64 0, .int .i64 0, .int .i64 0, .slice none 0 0, .bool false, .slice none 0 0, .slice none 0 0, .slice none 0 0, .slice none 0 0, .slice none 0 0, .int .i64 0, .slice none 0 0, .slice none 0 0, .slice none 0 0, .int .i64 0, .bool false, .slice none 0 0, .slice none 0 0, .slice none 0 0, .slice none 0 0, .slice none 0 0] 50))) := Below.and (bel_nw _ _) (bel_nw _ _)
 have Y1 : Hid (((w.alloc (.cells #[.int .i64 id, .int .i64 te, .int .i64 vo, .int .i64 lb, .int .i64 lt, lv, .bool sl, sp, sc, sk, sb, sv, .int .i64 ro, vv, nv, mv, .int .i64 cm, .bool ol, op, oc, ok, ob, ov] 50)).alloc (.cells #[.int .i64 0, .int .i64 0, .int .i64 0, .int .i64 0, .int .i64 0, .slice none 0 0, .bool false, .slice none 0 0, .slice none 0 0, .slice none 0 0, .slice none 0 0, .slice none 0 0, .int .i64 0, .slice none 0 0, .slice none 0 0, .slice none 0 0, .int .i64 0, .bool false, .slice none 0 0, .slice none 0 0, .slice none 0 0, .slice none 0 0, .slice none 0 0] 50)).heap[w.heap.size]? = some (.cells (List.toArray ([.int .i64 id, .int .i64 te, .int .i64 vo, .int .i64 lb, .int .i64 lt, lv, .bool sl, sp, sc, sk, sb, sv, .int .i64 ro, vv, nv, mv, .int .i64 cm, .bool ol, op, oc, ok, ob, ov] : List Value)) 50 (0, 0))) := (MBox.start 50 w #[.int .i64 id, .int .i64 te, .int .i64 vo, .int .i64 lb, .int .i64 lt, lv, .bool sl, sp, sc, sk, sb, sv, .int .i64 ro, vv, nv, mv, .int .i64 cm, .bool ol, op, oc, ok, ob, ov]).step (bel_nw _ _)
 have Y2 : Hid (((w.alloc (.cells #[.int .i64 id, .int .i64 te, .int .i64 vo, .int .i64 lb, .int .i64 lt, lv, .bool sl, sp, sc, sk, sb, sv, .int .i64 ro, vv, nv, mv, .int .i64 cm, .bool ol, op, oc, ok, ob, ov] 50)).alloc (.cells #[.int .i64 0, .int .i64 0, .int .i64 0, .int .i64 0, .int .i64 0, .slice none 0 0, .bool false, .slice none 0 0, .slice none 0 0, .slice none 0 0, .slice none 0 0, .slice none 0 0, .int .i64 0, .slice none 0 0, .slice none 0 0, .slice none 0 0, .int .i64 0, .bool false, .slice none 0 0, .slice none 0 0, .slice none 0 0, .slice none 0 0, .slice none 0 0] 50)).heap[(w.heap.size + 1)]? = some (.cells #[.int .i64 0, .int .i64 0, .int .i64 0, .int .i64 0, .int .i64 0, .slice none 0 0, .bool false, .slice none 0 0, .slice none 0 0, .slice none 0 0, .slice none 0 0, .slice none 0 0, .int .i64 0, .slice none 0 0, .slice none 0 0, .slice none 0 0, .int .i64 0, .bool false, .slice none 0 0, .slice none 0 0, .slice none 0 0, .slice none 0 0, .slice none 0 0] 50 (0, 0))) := by
  have := MBox.start 50 (w.alloc (.cells #[.int .i64 id, .int .i64 te, .int .i64 vo, .int .i64 lb, .int .i64 lt, lv, .bool sl, sp, sc, sk, sb, sv, .int .i64 ro, vv, nv, mv, .int .i64 cm, .bool ol, op, oc, ok, ob, ov] 50)) #[.int .i64 0, .int .i64 0, .int .i64 0, .int .i64 0, .int .i64 0, .slice none 0 0, .bool false, .slice none 0 0, .slice none 0 0, .slice none 0 0, .slice none 0 0, .slice none 0 0, .int .i64 0, .slice none 0 0, .slice none 0 0, .slice none 0 0, .int .i64 0, .bool false, .slice none 0 0, .slice none 0 0, .slice none 0 0, .slice none 0 0, .slice none 0 0]
  rw [World.size_alloc] at this
  exact this
 have ZW : Hid (((w.alloc (.cells #[.int .i64 id, .int .i64 te, .int .i64 vo, .int .i64 lb, .int .i64 lt, lv, .bool sl, sp, sc, sk, sb, sv, .int .i64 ro, vv, nv, mv, .int .i64 cm, .bool ol, op, oc, ok, ob, ov] 50)).alloc (.cells #[.int .i64 0, .int .i64 0, .int .i64 0, .int .i64 0, .int .i64 0, .slice none 0 0, .bool false, .slice none 0 0, .slice none 0 0, .slice none 0 0, .slice none 0 0, .slice none 0 0, .int .i64 0, .slice none 0 0, .slice none 0 0, .slice none 0 0, .int .i64 0, .bool false, .slice none 0 0, .slice none 0 0, .slice none 0 0, .slice none 0 0, .slice none 0 0] 50)).heap.size = w.heap.size + 2) := by show _ = _; simp
 show Calls Tryz.prog 6 #[.agg #[.int .i64 id, .int .i64 te, .int .i64 vo, .int .i64 lb, .int .i64 lt, lv, .bool sl, sp, sc, sk, sb, sv, .int .i64 ro, vv, nv, mv, .int .i64 cm, .bool ol, op, oc, ok, ob, ov], .int .i64 size] w _
 go_enter Tryz.func6, Tryz.ntmps6
 go_upto_region 1 with fail
 generalize ((w.alloc (.cells #[.int .i64 id, .int .i64 te, .int .i64 vo, .int .i64 lb, .int .i64 lt, lv, .bool sl, sp, sc, sk, sb, sv, .int .i64 ro, vv, nv, mv, .int .i64 cm, .bool ol, op, oc, ok, ob, ov] 50)).alloc (.cells #[.int .i64 0, .int .i64 0, .int .i64 0, .int .i64 0, .int .i64 0, .slice none 0 0, .bool false, .slice none 0 0, .slice none 0 0, .slice none 0 0, .slice none 0 0, .slice none 0 0, .int .i64 0, .slice none 0 0, .slice none 0 0, .slice none 0 0, .int .i64 0, .bool false, .slice none 0 0, .slice none 0 0, .slice none 0 0, .slice none 0 0, .slice none 0 0] 50)) = W at *
 generalize hcs : ([.int .i64 id, .int .i64 te, .int .i64 vo, .int .i64 lb, .int .i64 lt, lv, .bool sl, sp, sc, sk, sb, sv, .int .i64 ro, vv, nv, mv, .int .i64 cm, .bool ol, op, oc, ok, ob, ov] : List Value) = cs at *
 have ra := range_of Y1.out
 rw [List.toList_toArray] at ra
 go_wp2_with (refine wpList_load_g (by rfl) 50 _ rfl w.heap.size 0 rfl cs _ ra Tryz.underlying50 rfl HI.out ?_)
 refine (CP.out _ B1.out).mono ?_
 rintro e w1 ⟨M, rfl, lk, nd, b1⟩
 obtain ⟨ms, msv, msl, mso⟩ := nd.at.cells
 have HIN : Hid ((Tryz.prog.info? 50).map (·.size) = some ms.toArray.size) := by
  show _ = _
  rw [List.size_toArray, msl]
  kernel_rfl
 have NA := newAll (w := w1) (t := 50) (A := #[.int .i64 0, .int .i64 0, .int .i64 0, .int .i64 0, .int .i64 0, .slice none 0 0, .bool false, .slice none 0 0, .slice none 0 0, .slice none 0 0, .slice none 0 0, .slice none 0 0, .int .i64 0, .slice none 0 0, .slice none 0 0, .slice none 0 0, .int .i64 0, .bool false, .slice none 0 0, .slice none 0 0, .slice none 0 0, .slice none 0 0, .slice none 0 0]) (vs := ms) msl.symm
 have TH : Hid (World.there (w1.alloc (.cells #[.int .i64 0, .int .i64 0, .int .i64 0, .int .i64 0, .int .i64 0, .slice none 0 0, .bool false, .slice none 0 0, .slice none 0 0, .slice none 0 0, .slice none 0 0, .slice none 0 0, .int .i64 0, .slice none 0 0, .slice none 0 0, .slice none 0 0, .int .i64 0, .bool false, .slice none 0 0, .slice none 0 0, .slice none 0 0, .slice none 0 0, .slice none 0 0] 50)) w1.heap.size 0 ms.toArray.size) := there_of (heap_alloc_new w1 _) (show 23 = ms.toArray.size by rw [List.size_toArray, msl])
 have SZ1 : ((w1.alloc (.cells #[.int .i64 0, .int .i64 0, .int .i64 0, .int .i64 0, .int .i64 0, .slice none 0 0, .bool false, .slice none 0 0, .slice none 0 0, .slice none 0 0, .slice none 0 0, .slice none 0 0, .int .i64 0, .slice none 0 0, .slice none 0 0, .slice none 0 0, .int .i64 0, .bool false, .slice none 0 0, .slice none 0 0, .slice none 0 0, .slice none 0 0, .slice none 0 0] 50)).setCells w1.heap.size 0 ms).heap.size ≥ w1.heap.size + 1 := by have := (Chg.setCells (F := fun _ => True) (g := w1.heap.size) (fun _ => trivial) ms 0 _ (Chg.refl _ (w1.alloc (.cells #[.int .i64 0, .int .i64 0, .int .i64 0, .int .i64 0, .int .i64 0, .slice none 0 0, .bool false, .slice none 0 0, .slice none 0 0, .slice none 0 0, .slice none 0 0, .slice none 0 0, .int .i64 0, .slice none 0 0, .slice none 0 0, .slice none 0 0, .int .i64 0, .bool false, .slice none 0 0, .slice none 0 0, .slice none 0 0, .slice none 0 0, .slice none 0 0] 50)))).size; simpa using this
 have CB : w.heap.size + 2 ≤ w1.heap.size := by have := b1.size; have := ZW.out; omega
 have G : Hid (RS w w1 cs.toArray ms.toArray ((w1.alloc (.cells #[.int .i64 0, .int .i64 0, .int .i64 0, .int .i64 0, .int .i64 0, .slice none 0 0, .bool false, .slice none 0 0, .slice none 0 0, .slice none 0 0, .slice none 0 0, .slice none 0 0, .int .i64 0, .slice none 0 0, .slice none 0 0, .slice none 0 0, .int .i64 0, .bool false, .slice none 0 0, .slice none 0 0, .slice none 0 0, .slice none 0 0, .slice none 0 0] 50)).setCells w1.heap.size 0 ms)) := ⟨Below.and (Below.and B1.out b1) NA.1, NA.1, CB, SZ1, step_at (step_at Y1.out b1) NA.1, step_at (step_at Y2.out b1) NA.1, NA.2⟩
 have LK := hid9 lk
 have ND : Hid (NodB n w1 (w.heap.size + 2) M D) := by have := nd; rw [ZW.out] at this; exact this
 have MSV := hid9 msv
 rw [msv]
 clear ra nd lk b1 NA CP SZ1 CB B1 Y1 Y2 ZW msv
 go_upto_region 2 with (refine wpList_store_mid rfl 50 _ _ rfl w1.heap.size 0 ms.toArray rfl rfl TH.out HIN.out mso ?_)
 clear TH
 generalize (w1.alloc (.cells #[.int .i64 0, .int .i64 0, .int .i64 0, .int .i64 0, .int .i64 0, .slice none 0 0, .bool false, .slice none 0 0, .slice none 0 0, .slice none 0 0, .slice none 0 0, .slice none 0 0, .int .i64 0, .slice none 0 0, .slice none 0 0, .slice none 0 0, .int .i64 0, .bool false, .slice none 0 0, .slice none 0 0, .slice none 0 0, .slice none 0 0, .slice none 0 0] 50)).setCells w1.heap.size 0 ms = W5 at *
 have ra := range_of G.out.2.2.2.2.1
 rw [List.toList_toArray] at ra
 go_wp2_with (refine wpList_load_g (by rfl) 50 _ rfl w.heap.size 0 rfl cs _ ra Tryz.underlying50 rfl HI.out ?_)
 refine (OK.out _ G.out.1).mono ?_
 rintro e w2 ⟨rfl, b2⟩
 replace G := hid9 (G.out.step b2)
 clear ra b2 OK
 have RG : Hid (w2.rangeAt w1.heap.size 0 ms) := by have := range_of G.out.2.2.2.2.2.2; rw [List.toList_toArray] at this; exact this
 have TH2 : Hid (w2.there (w.heap.size + 1) 0 ms.toArray.size) := there_of G.out.2.2.2.2.2.1 (show 23 = ms.toArray.size by rw [List.size_toArray, msl])
 have GC : Hid (Chg (fun g => g = (w.heap.size + 1)) w2 (w2.setCells (w.heap.size + 1) 0 ms)) := Chg.setCells (F := fun g => g = (w.heap.size + 1)) (g := (w.heap.size + 1)) (fun _ => rfl) ms 0 w2 (Chg.refl _ _)
 have XF : Hid ((w2.setCells (w.heap.size + 1) 0 ms).heap[(w.heap.size + 1)]? = some (.cells ms.toArray 50 (0, 0))) := setAll_at G.out.2.2.2.2.2.1 ms (by rw [msl]; rfl)
 have HM1 : Hid ((Tryz.prog.info? 50).map (·.size) = some ms.length) := by show _ = _; rw [msl]; kernel_rfl
 have HM2 : Hid ((Tryz.prog.info? 50).map (·.size) = some ms.toArray.size) := by show _ = _; rw [List.size_toArray]; exact HM1.out
 have CB := G.out.2.2.1
 have BL := hid9 (G.out.1.trans (GC.out.below (fun g _ hg => by omega) G.out.1.size))
 have BN := hid9 (GC.out)
 have FIN : Hid (∃ K : NodV, Value.agg ms.toArray = K.val ∧ NodV.like ⟨id, te, vo, lb, lt, lv, ⟨⟨sl, sp, sc, sk, sb⟩, sv⟩, ro, vv, nv, mv, cm, ⟨⟨ol, op, oc, ok, ob⟩, ov⟩⟩ K ∧ NodAt n (w2.setCells (w.heap.size + 1) 0 ms) K D ∧ Below w.heap.size w (w2.setCells (w.heap.size + 1) 0 ms)) := ⟨M, MSV.out.symm, LK.out, (((ND.out.below G.out.2.1).chg BN.out (fun g h1 _ h2 => by omega)).at), BL.out⟩
 clear GC BN G LK ND BL
 go_wp2_with (first | (refine wpList_load_mid rfl 50 _ rfl w1.heap.size 0 rfl ms _ RG.out Tryz.underlying50 rfl HM1.out ?_) | (refine wpList_store_mid rfl 50 _ _ rfl (w.heap.size + 1) 0 ms.toArray rfl rfl TH2.out HM2.out mso ?_))
 generalize w2.setCells (w.heap.size + 1) 0 ms = WF at *
 exact ⟨rfl, _, results_cell_row Tryz.results6 _ WF (w.heap.size + 1) 50 ms.toArray (0, 0) _ rfl XF.out Tryz.underlying50 rfl HM2.out, (by obtain ⟨K, e, r⟩ := FIN.out; exact ⟨K, by rw [e], r⟩)⟩

theorem specRise_yes (n : Nat) (N : NodV) (D : Nd) (k : Nat) (w : World) (h : NodAt n w N D) (hs : D.small n) (hk1 : D.vs.length = k) (hk2 : D.nx.length = k) (hk3 : D.mt.length = k) (hk5 : k ≤ 5) (hbb : nodeOkB N D (k : Int) = true) :
  Calls Tryz.prog 6 #[N.val, .int .i64 (k : Int)] w fun e w' => ∃ K : NodV, e = .returned K.val ∧ riseL true N K ∧ NodAt n w' K (riseD true D) ∧ Below w.heap.size w w' := by
 have HK := hid9 (And.intro hk1 (And.intro hk2 hk3))
 clear hk1 hk2 hk3
 have CP : Hid (∀ u, Below w.heap.size w u → Calls Tryz.prog 21 #[N.val] u fun e w' => ∃ M : NodV, e = .returned M.val ∧ N.like M ∧ NodB n w' u.heap.size M D ∧ Below u.heap.size u w') := fun u hu => l9Copy_any n N D u (h.below hu) hs
 have OK : Hid (∀ u, Below w.heap.size w u → Calls Tryz.prog 22 #[N.val, .int .i64 (k : Int)] u fun e w' => e = .returned (.bool true) ∧ Below u.heap.size u w') := fun u hu => by
  have := specNodeOk_any n N D (k : Int) u (h.below hu) hs
  rw [hbb] at this
  exact this
 have HS := hid9 hs
 have HH := hid9 h
 clear h hs hbb
 obtain ⟨id, te, vo, lb, lt, lv, ⟨⟨sl, sp, sc, sk, sb⟩, sv⟩, ro, vv, nv, mv, cm, ⟨⟨ol, op, oc, ok, ob⟩, ov⟩⟩ := N
 replace CP : Hid (∀ u, Below w.heap.size w u → Calls Tryz.prog 21 #[.agg #[.int .i64 id, .int .i64 te, .int .i64 vo, .int .i64 lb, .int .i64 lt, lv, .bool sl, sp, sc, sk, sb, sv, .int .i64 ro, vv, nv, mv, .int .i64 cm, .bool ol, op, oc, ok, ob, ov]] u fun e w' => ∃ M : NodV, e = .returned M.val ∧ NodV.like ⟨id, te, vo, lb, lt, lv, ⟨⟨sl, sp, sc, sk, sb⟩, sv⟩, ro, vv, nv, mv, cm, ⟨⟨ol, op, oc, ok, ob⟩, ov⟩⟩ M ∧ NodB n w' u.heap.size M D ∧ Below u.heap.size u w') := CP
 replace OK : Hid (∀ u, Below w.heap.size w u → Calls Tryz.prog 22 #[.agg #[.int .i64 id, .int .i64 te, .int .i64 vo, .int .i64 lb, .int .i64 lt, lv, .bool sl, sp, sc, sk, sb, sv, .int .i64 ro, vv, nv, mv, .int .i64 cm, .bool ol, op, oc, ok, ob, ov], .int .i64 (k : Int)] u fun e w' => e = .returned (.bool true) ∧ Below u.heap.size u w') := OK
 have LC : Hid (∀ u, Below w.heap.size w u → Calls Tryz.prog 24 #[.agg #[.bool sl, sp, sc, sk, sb, sv]] u fun e w' => ∃ m' : MacV, e = .returned m'.val ∧ MacD n w' (fun g => u.heap.size ≤ g) m' D.T1 D.d1 ∧ Below u.heap.size u w') := fun u hu => l7Copy_any n ⟨⟨sl, sp, sc, sk, sb⟩, sv⟩ D.T1 D.d1 u (HH.out.below hu).2.1 (by have := HS.out.2.1; omega) HS.out.2.2.1
 have HI : Hid ((Tryz.prog.info? 50).map (·.size) = some (List.length ([.int .i64 id, .int .i64 te, .int .i64 vo, .int .i64 lb, .int .i64 lt, lv, .bool sl, sp, sc, sk, sb, sv, .int .i64 ro, vv, nv, mv, .int .i64 cm, .bool ol, op, oc, ok, ob, ov] : List Value))) := (show (Tryz.prog.info? 50).map (·.size) = some 23 by kernel_rfl)
 have B1 : Hid (Below w.heap.size w ((w.alloc (.cells #[.int .i64 id, .int .i64 te, .int .i64 vo, .int .i64 lb, .int .i64 lt, lv, .bool sl, sp, sc, sk, sb, sv, .int .i64 ro, vv, nv, mv, .int .i64 cm, .bool ol, op, oc, ok, ob, ov] 50)).alloc (.cells #[.int .i64 0, .int .i64 0, .int .i64 0, .int .i64 0, .int .i64 0, .slice none 0 0, .bool false, .slice none 0 0, .slice none 0 0, .slice none 0 0, .slice none 0 0, .slice none 0 0, .int .i64 0, .slice none 0 0, .slice none 0 0, .slice none 0 0, .int .i64 0, .bool false, .slice none 0 0, .slice none 0 0, .slice none 0 0, .slice none 0 0, .slice none 0 0] 50))) := Below.and (bel_nw _ _) (bel_nw _ _)
 have Y1 : Hid (((w.alloc (.cells #[.int .i64 id, .int .i64 te, .int .i64 vo, .int .i64 lb, .int .i64 lt, lv, .bool sl, sp, sc, sk, sb, sv, .int .i64 ro, vv, nv, mv, .int .i64 cm, .bool ol, op, oc, ok, ob, ov] 50)).alloc (.cells #[.int .i64 0, .int .i64 0, .int .i64 0, .int .i64 0, .int .i64 0, .slice none 0 0, .bool false, .slice none 0 0, .slice none 0 0, .slice none 0 0, .slice none 0 0, .slice none 0 0, .int .i64 0, .slice none 0 0, .slice none 0 0, .slice none 0 0, .int .i64 0, .bool false, .slice none 0 0, .slice none 0 0, .slice none 0 0, .slice none 0 0, .slice none 0 0] 50)).heap[w.heap.size]? = some (.cells (List.toArray ([.int .i64 id, .int .i64 te, .int .i64 vo, .int .i64 lb, .int .i64 lt, lv, .bool sl, sp, sc, sk, sb, sv, .int .i64 ro, vv, nv, mv, .int .i64 cm, .bool ol, op, oc, ok, ob, ov] : List Value)) 50 (0, 0))) := (MBox.start 50 w #[.int .i64 id, .int .i64 te, .int .i64 vo, .int .i64 lb, .int .i64 lt, lv, .bool sl, sp, sc, sk, sb, sv, .int .i64 ro, vv, nv, mv, .int .i64 cm, .bool ol, op, oc, ok, ob, ov]).step (bel_nw _ _)
 have Y2 : Hid (((w.alloc (.cells #[.int .i64 id, .int .i64 te, .int .i64 vo, .int .i64 lb, .int .i64 lt, lv, .bool sl, sp, sc, sk, sb, sv, .int .i64 ro, vv, nv, mv, .int .i64 cm, .bool ol, op, oc, ok, ob, ov] 50)).alloc (.cells #[.int .i64 0, .int .i64 0, .int .i64 0, .int .i64 0, .int .i64 0, .slice none 0 0, .bool false, .slice none 0 0, .slice none 0 0, .slice none 0 0, .slice none 0 0, .slice none 0 0, .int .i64 0, .slice none 0 0, .slice none 0 0, .slice none 0 0, .int .i64 0, .bool false, .slice none 0 0, .slice none 0 0, .slice none 0 0, .slice none 0 0, .slice none 0 0] 50)).heap[(w.heap.size + 1)]? = some (.cells #[.int .i64 0, .int .i64 0, .int .i64 0, .int .i64 0, .int .i64 0, .slice none 0 0, .bool false, .slice none 0 0, .slice none 0 0, .slice none 0 0, .slice none 0 0, .slice none 0 0, .int .i64 0, .slice none 0 0, .slice none 0 0, .slice none 0 0, .int .i64 0, .bool false, .slice none 0 0, .slice none 0 0, .slice none 0 0, .slice none 0 0, .slice none 0 0] 50 (0, 0))) := by
  have := MBox.start 50 (w.alloc (.cells #[.int .i64 id, .int .i64 te, .int .i64 vo, .int .i64 lb, .int .i64 lt, lv, .bool sl, sp, sc, sk, sb, sv, .int .i64 ro, vv, nv, mv, .int .i64 cm, .bool ol, op, oc, ok, ob, ov] 50)) #[.int .i64 0, .int .i64 0, .int .i64 0, .int .i64 0, .int .i64 0, .slice none 0 0, .bool false, .slice none 0 0, .slice none 0 0, .slice none 0 0, .slice none 0 0, .slice none 0 0, .int .i64 0, .slice none 0 0, .slice none 0 0, .slice none 0 0, .int .i64 0, .bool false, .slice none 0 0, .slice none 0 0, .slice none 0 0, .slice none 0 0, .slice none 0 0]
  rw [World.size_alloc] at this
  exact this
 have ZW : Hid (((w.alloc (.cells #[.int .i64 id, .int .i64 te, .int .i64 vo, .int .i64 lb, .int .i64 lt, lv, .bool sl, sp, sc, sk, sb, sv, .int .i64 ro, vv, nv, mv, .int .i64 cm, .bool ol, op, oc, ok, ob, ov] 50)).alloc (.cells #[.int .i64 0, .int .i64 0, .int .i64 0, .int .i64 0, .int .i64 0, .slice none 0 0, .bool false, .slice none 0 0, .slice none 0 0, .slice none 0 0, .slice none 0 0, .slice none 0 0, .int .i64 0, .slice none 0 0, .slice none 0 0, .slice none 0 0, .int .i64 0, .bool false, .slice none 0 0, .slice none 0 0, .slice none 0 0, .slice none 0 0, .slice none 0 0] 50)).heap.size = w.heap.size + 2) := by show _ = _; simp
 have CS : Hid (([.int .i64 id, .int .i64 te, .int .i64 vo, .int .i64 lb, .int .i64 lt, lv, .bool sl, sp, sc, sk, sb, sv, .int .i64 ro, vv, nv, mv, .int .i64 cm, .bool ol, op, oc, ok, ob, ov] : List Value)[3]? = some (.int .i64 lb) ∧ ([.int .i64 id, .int .i64 te, .int .i64 vo, .int .i64 lb, .int .i64 lt, lv, .bool sl, sp, sc, sk, sb, sv, .int .i64 ro, vv, nv, mv, .int .i64 cm, .bool ol, op, oc, ok, ob, ov] : List Value)[6]? = some (.bool sl) ∧ ([.int .i64 id, .int .i64 te, .int .i64 vo, .int .i64 lb, .int .i64 lt, lv, .bool sl, sp, sc, sk, sb, sv, .int .i64 ro, vv, nv, mv, .int .i64 cm, .bool ol, op, oc, ok, ob, ov] : List Value)[7]? = some (sp) ∧ ([.int .i64 id, .int .i64 te, .int .i64 vo, .int .i64 lb, .int .i64 lt, lv, .bool sl, sp, sc, sk, sb, sv, .int .i64 ro, vv, nv, mv, .int .i64 cm, .bool ol, op, oc, ok, ob, ov] : List Value)[8]? = some (sc) ∧ ([.int .i64 id, .int .i64 te, .int .i64 vo, .int .i64 lb, .int .i64 lt, lv, .bool sl, sp, sc, sk, sb, sv, .int .i64 ro, vv, nv, mv, .int .i64 cm, .bool ol, op, oc, ok, ob, ov] : List Value)[9]? = some (sk) ∧ ([.int .i64 id, .int .i64 te, .int .i64 vo, .int .i64 lb, .int .i64 lt, lv, .bool sl, sp, sc, sk, sb, sv, .int .i64 ro, vv, nv, mv, .int .i64 cm, .bool ol, op, oc, ok, ob, ov] : List Value)[10]? = some (sb) ∧ ([.int .i64 id, .int .i64 te, .int .i64 vo, .int .i64 lb, .int .i64 lt, lv, .bool sl, sp, sc, sk, sb, sv, .int .i64 ro, vv, nv, mv, .int .i64 cm, .bool ol, op, oc, ok, ob, ov] : List Value)[11]? = some (sv)) := ⟨rfl, rfl, rfl, rfl, rfl, rfl, rfl⟩
 show Calls Tryz.prog 6 #[.agg #[.int .i64 id, .int .i64 te, .int .i64 vo, .int .i64 lb, .int .i64 lt, lv, .bool sl, sp, sc, sk, sb, sv, .int .i64 ro, vv, nv, mv, .int .i64 cm, .bool ol, op, oc, ok, ob, ov], .int .i64 (k : Int)] w _
 go_enter Tryz.func6, Tryz.ntmps6
 go_upto_region 1 with fail
 generalize ((w.alloc (.cells #[.int .i64 id, .int .i64 te, .int .i64 vo, .int .i64 lb, .int .i64 lt, lv, .bool sl, sp, sc, sk, sb, sv, .int .i64 ro, vv, nv, mv, .int .i64 cm, .bool ol, op, oc, ok, ob, ov] 50)).alloc (.cells #[.int .i64 0, .int .i64 0, .int .i64 0, .int .i64 0, .int .i64 0, .slice none 0 0, .bool false, .slice none 0 0, .slice none 0 0, .slice none 0 0, .slice none 0 0, .slice none 0 0, .int .i64 0, .slice none 0 0, .slice none 0 0, .slice none 0 0, .int .i64 0, .bool false, .slice none 0 0, .slice none 0 0, .slice none 0 0, .slice none 0 0, .slice none 0 0] 50)) = W at *
 generalize hcs : ([.int .i64 id, .int .i64 te, .int .i64 vo, .int .i64 lb, .int .i64 lt, lv, .bool sl, sp, sc, sk, sb, sv, .int .i64 ro, vv, nv, mv, .int .i64 cm, .bool ol, op, oc, ok, ob, ov] : List Value) = cs at *
 have ra := range_of Y1.out
 rw [List.toList_toArray] at ra
 go_wp2_with (refine wpList_load_g (by rfl) 50 _ rfl w.heap.size 0 rfl cs _ ra Tryz.underlying50 rfl HI.out ?_)
 refine (CP.out _ B1.out).mono ?_
 rintro e w1 ⟨M, rfl, lk, nd, b1⟩
 obtain ⟨ms, msv, msl, mso⟩ := nd.at.cells
 have HIN : Hid ((Tryz.prog.info? 50).map (·.size) = some ms.toArray.size) := by
  show _ = _
  rw [List.size_toArray, msl]
  kernel_rfl
 have NA := newAll (w := w1) (t := 50) (A := #[.int .i64 0, .int .i64 0, .int .i64 0, .int .i64 0, .int .i64 0, .slice none 0 0, .bool false, .slice none 0 0, .slice none 0 0, .slice none 0 0, .slice none 0 0, .slice none 0 0, .int .i64 0, .slice none 0 0, .slice none 0 0, .slice none 0 0, .int .i64 0, .bool false, .slice none 0 0, .slice none 0 0, .slice none 0 0, .slice none 0 0, .slice none 0 0]) (vs := ms) msl.symm
 have TH : Hid (World.there (w1.alloc (.cells #[.int .i64 0, .int .i64 0, .int .i64 0, .int .i64 0, .int .i64 0, .slice none 0 0, .bool false, .slice none 0 0, .slice none 0 0, .slice none 0 0, .slice none 0 0, .slice none 0 0, .int .i64 0, .slice none 0 0, .slice none 0 0, .slice none 0 0, .int .i64 0, .bool false, .slice none 0 0, .slice none 0 0, .slice none 0 0, .slice none 0 0, .slice none 0 0] 50)) w1.heap.size 0 ms.toArray.size) := there_of (heap_alloc_new w1 _) (show 23 = ms.toArray.size by rw [List.size_toArray, msl])
 have SZ1 : ((w1.alloc (.cells #[.int .i64 0, .int .i64 0, .int .i64 0, .int .i64 0, .int .i64 0, .slice none 0 0, .bool false, .slice none 0 0, .slice none 0 0, .slice none 0 0, .slice none 0 0, .slice none 0 0, .int .i64 0, .slice none 0 0, .slice none 0 0, .slice none 0 0, .int .i64 0, .bool false, .slice none 0 0, .slice none 0 0, .slice none 0 0, .slice none 0 0, .slice none 0 0] 50)).setCells w1.heap.size 0 ms).heap.size ≥ w1.heap.size + 1 := by have := (Chg.setCells (F := fun _ => True) (g := w1.heap.size) (fun _ => trivial) ms 0 _ (Chg.refl _ (w1.alloc (.cells #[.int .i64 0, .int .i64 0, .int .i64 0, .int .i64 0, .int .i64 0, .slice none 0 0, .bool false, .slice none 0 0, .slice none 0 0, .slice none 0 0, .slice none 0 0, .slice none 0 0, .int .i64 0, .slice none 0 0, .slice none 0 0, .slice none 0 0, .int .i64 0, .bool false, .slice none 0 0, .slice none 0 0, .slice none 0 0, .slice none 0 0, .slice none 0 0] 50)))).size; simpa using this
 have CB : w.heap.size + 2 ≤ w1.heap.size := by have := b1.size; have := ZW.out; omega
 have G : Hid (RS w w1 cs.toArray ms.toArray ((w1.alloc (.cells #[.int .i64 0, .int .i64 0, .int .i64 0, .int .i64 0, .int .i64 0, .slice none 0 0, .bool false, .slice none 0 0, .slice none 0 0, .slice none 0 0, .slice none 0 0, .slice none 0 0, .int .i64 0, .slice none 0 0, .slice none 0 0, .slice none 0 0, .int .i64 0, .bool false, .slice none 0 0, .slice none 0 0, .slice none 0 0, .slice none 0 0, .slice none 0 0] 50)).setCells w1.heap.size 0 ms)) := ⟨Below.and (Below.and B1.out b1) NA.1, NA.1, CB, SZ1, step_at (step_at Y1.out b1) NA.1, step_at (step_at Y2.out b1) NA.1, NA.2⟩
 have LK := hid9 lk
 have ND : Hid (NodB n w1 (w.heap.size + 2) M D) := by have := nd; rw [ZW.out] at this; exact this
 have MSV := hid9 msv
 rw [msv]
 clear ra nd lk b1 NA CP SZ1 CB B1 Y1 Y2 ZW msv
 go_upto_region 2 with (refine wpList_store_mid rfl 50 _ _ rfl w1.heap.size 0 ms.toArray rfl rfl TH.out HIN.out mso ?_)
 clear TH
 generalize (w1.alloc (.cells #[.int .i64 0, .int .i64 0, .int .i64 0, .int .i64 0, .int .i64 0, .slice none 0 0, .bool false, .slice none 0 0, .slice none 0 0, .slice none 0 0, .slice none 0 0, .slice none 0 0, .int .i64 0, .slice none 0 0, .slice none 0 0, .slice none 0 0, .int .i64 0, .bool false, .slice none 0 0, .slice none 0 0, .slice none 0 0, .slice none 0 0, .slice none 0 0] 50)).setCells w1.heap.size 0 ms = W5 at *
 have ra := range_of G.out.2.2.2.2.1
 rw [List.toList_toArray] at ra
 go_wp2_with (refine wpList_load_g (by rfl) 50 _ rfl w.heap.size 0 rfl cs _ ra Tryz.underlying50 rfl HI.out ?_)
 refine (OK.out _ G.out.1).mono ?_
 rintro e w2 ⟨rfl, b2⟩
 replace G := hid9 (G.out.step b2)
 clear ra b2 OK
 have hmm : ms.toArray = #[.int .i64 M.id, .int .i64 M.te, .int .i64 M.vo, .int .i64 M.lb, .int .i64 M.lt, M.lv, .bool M.s.x.lf, M.s.x.p, M.s.x.c, M.s.x.k, M.s.x.b, M.s.v, .int .i64 M.ro, M.vv, M.nv, M.mv, .int .i64 M.cm, .bool M.o.x.lf, M.o.x.p, M.o.x.c, M.o.x.k, M.o.x.b, M.o.v] := by have := MSV.out; simp only [NodV.val] at this; injection this with e; exact e.symm
 have CC : Hid (∀ u : World, u.heap[w.heap.size]? = some (.cells cs.toArray 50 (0, 0)) → u.cell? ⟨w.heap.size, 3, none⟩ = some (.int .i64 lb) ∧ u.cell? ⟨w.heap.size, 6, none⟩ = some (.bool sl) ∧ u.cell? ⟨w.heap.size, 7, none⟩ = some (sp) ∧ u.cell? ⟨w.heap.size, 8, none⟩ = some (sc) ∧ u.cell? ⟨w.heap.size, 9, none⟩ = some (sk) ∧ u.cell? ⟨w.heap.size, 10, none⟩ = some (sb) ∧ u.cell? ⟨w.heap.size, 11, none⟩ = some (sv)) := fun u hu => by
  have c := fun j => cell_of_cells (j := j) hu
  obtain ⟨z0, z1, z2, z3, z4, z5, z6⟩ := CS.out
  exact ⟨(c 3).trans (by simpa using z0), (c 6).trans (by simpa using z1), (c 7).trans (by simpa using z2), (c 8).trans (by simpa using z3), (c 9).trans (by simpa using z4), (c 10).trans (by simpa using z5), (c 11).trans (by simpa using z6)⟩
 replace G : Hid (RS w w1 cs.toArray #[.int .i64 M.id, .int .i64 M.te, .int .i64 M.vo, .int .i64 M.lb, .int .i64 M.lt, M.lv, .bool M.s.x.lf, M.s.x.p, M.s.x.c, M.s.x.k, M.s.x.b, M.s.v, .int .i64 M.ro, M.vv, M.nv, M.mv, .int .i64 M.cm, .bool M.o.x.lf, M.o.x.p, M.o.x.c, M.o.x.k, M.o.x.b, M.o.v] w2) := by have := G.out; rw [hmm] at this; exact this
 have LON : Hid (∀ u, Calls Tryz.prog 23 #[.int .i64 k, .int .i64 1] u fun e w' => ∃ v, e = .returned v ∧ OwnE w' u.heap.size 3 1 v k (flatI (List.replicate k 1)) ∧ Below u.heap.size u w') := fun u => l9Ones_any k 1 u (by omega)
 clear hmm MSV msl mso HIN HI CS HH
 go_upto_region 4 with fail
 go_cut [] (fun wx => Hid (RS w w1 cs.toArray #[.int .i64 M.id, .int .i64 M.te, .int .i64 M.vo, .int .i64 M.lb, .int .i64 M.lt, M.lv, .bool M.s.x.lf, M.s.x.p, M.s.x.c, M.s.x.k, M.s.x.b, M.s.v, .int .i64 0, M.vv, M.nv, M.mv, .int .i64 M.cm, .bool M.o.x.lf, M.o.x.p, M.o.x.c, M.o.x.k, M.o.x.b, M.o.v] wx))
 case first =>
  as_aux_lemma =>
   obtain ⟨e3, e6, e7, e8, e9, e10, e11⟩ := CC.out _ G.out.2.2.2.2.1
   have ff1 : ∀ j, w2.frozen? ⟨w1.heap.size, j, none⟩ = false := fun j => frozen_of_cells G.out.2.2.2.2.2.2
   have dd0 : ∀ j, w2.cell? ⟨w1.heap.size, j, none⟩ = (#[.int .i64 M.id, .int .i64 M.te, .int .i64 M.vo, .int .i64 M.lb, .int .i64 M.lt, M.lv, .bool M.s.x.lf, M.s.x.p, M.s.x.c, M.s.x.k, M.s.x.b, M.s.v, .int .i64 M.ro, M.vv, M.nv, M.mv, .int .i64 M.cm, .bool M.o.x.lf, M.o.x.p, M.o.x.c, M.o.x.k, M.o.x.b, M.o.v] : Array Value)[j]? := fun j => cell_of_cells G.out.2.2.2.2.2.2
   have GC := hid9 ((Chg.refl (fun g => g = w1.heap.size) w2).setAt (w1.heap.size) 12 rfl (.int .i64 0))
   have n2 : (w2.setCell ⟨w1.heap.size, 12, none⟩ (.int .i64 0)).heap[w1.heap.size]? = some (.cells #[.int .i64 M.id, .int .i64 M.te, .int .i64 M.vo, .int .i64 M.lb, .int .i64 M.lt, M.lv, .bool M.s.x.lf, M.s.x.p, M.s.x.c, M.s.x.k, M.s.x.b, M.s.v, .int .i64 0, M.vv, M.nv, M.mv, .int .i64 M.cm, .bool M.o.x.lf, M.o.x.p, M.o.x.c, M.o.x.k, M.o.x.b, M.o.v] 50 (0, 0)) := by simpa using (set_at 12 (.int .i64 0) G.out.2.2.2.2.2.2)
   have G2 := hid9 (G.out.sets GC.out n2)
   clear n2
   go_wp2_with fail
   go_meet
   exact G2.out
 case rest =>
  clear G 
  have G := hcut
  go_upto_region 5 with fail
  go_cut [] (fun wx => ∃ x6 : Option Addr × Nat × Nat, Hid (RS w w1 cs.toArray #[.int .i64 M.id, .int .i64 M.te, .int .i64 M.vo, .int .i64 M.lb, .int .i64 M.lt, M.lv, .bool M.s.x.lf, M.s.x.p, M.s.x.c, M.s.x.k, M.s.x.b, M.s.v, .int .i64 0, .slice x6.1 x6.2.1 x6.2.2, M.nv, M.mv, .int .i64 M.cm, .bool M.o.x.lf, M.o.x.p, M.o.x.c, M.o.x.k, M.o.x.b, M.o.v] wx) ∧ Hid (OwnE wx (w1.heap.size + 1) 4 1 (.slice x6.1 x6.2.1 x6.2.2) k (List.replicate k (.bool false))))
  case first =>
   as_aux_lemma =>
    obtain ⟨i0, hi, hz0, hz1, hz2⟩ := info_parts Tryz.info4
    have cb := G.out.2.2.2.1
    go_wp2_with (at_make; refine wpList_make_full _ rfl _ _ 34 rfl wc.heap.size 4 i0 _ 1 Tryz.underlying34 hi hz0 hz1 .i64 .i64 _ _ k rfl rfl rfl rfl ?c1 ?c2 ?c3 ?_)
    case c1 => rw [hz2]; omega
    case c2 => unfold maxLen; omega
    case c3 => exact Nat.le_refl _
    intro v2 oz gz
    have bz : Below wc.heap.size wc v2 := (Below.refl _ _).grown gz (Nat.le_refl _) (fun k hk => by cases hk)
    rw [madeCells_all _ (.bool false) (by decide) (fun i hi => by match i, hi with | 0, _ => rfl)] at oz
    have Oz : Hid (OwnE v2 (w1.heap.size + 1) 4 1 (.slice (some ⟨wc.heap.size, 0, none⟩) k k) k (List.replicate k (.bool false))) := OwnE.mono (OwnE.of_owns (by simpa using oz)) cb
    clear hi hz0 hz1 hz2
    replace G := hid9 (G.out.step bz)
    clear oz bz gz
    have ff1 : ∀ j, v2.frozen? ⟨w1.heap.size, j, none⟩ = false := fun j => frozen_of_cells G.out.2.2.2.2.2.2
    have dd0 : ∀ j, v2.cell? ⟨w1.heap.size, j, none⟩ = (#[.int .i64 M.id, .int .i64 M.te, .int .i64 M.vo, .int .i64 M.lb, .int .i64 M.lt, M.lv, .bool M.s.x.lf, M.s.x.p, M.s.x.c, M.s.x.k, M.s.x.b, M.s.v, .int .i64 0, M.vv, M.nv, M.mv, .int .i64 M.cm, .bool M.o.x.lf, M.o.x.p, M.o.x.c, M.o.x.k, M.o.x.b, M.o.v] : Array Value)[j]? := fun j => cell_of_cells G.out.2.2.2.2.2.2
    have GC := hid9 ((Chg.refl (fun g => g = w1.heap.size) v2).setAt (w1.heap.size) 13 rfl (.slice (some ⟨wc.heap.size, 0, none⟩) k k))
    have n2 : (v2.setCell ⟨w1.heap.size, 13, none⟩ (.slice (some ⟨wc.heap.size, 0, none⟩) k k)).heap[w1.heap.size]? = some (.cells #[.int .i64 M.id, .int .i64 M.te, .int .i64 M.vo, .int .i64 M.lb, .int .i64 M.lt, M.lv, .bool M.s.x.lf, M.s.x.p, M.s.x.c, M.s.x.k, M.s.x.b, M.s.v, .int .i64 0, .slice (some ⟨wc.heap.size, 0, none⟩) k k, M.nv, M.mv, .int .i64 M.cm, .bool M.o.x.lf, M.o.x.p, M.o.x.c, M.o.x.k, M.o.x.b, M.o.v] 50 (0, 0)) := by simpa using (set_at 13 (.slice (some ⟨wc.heap.size, 0, none⟩) k k) G.out.2.2.2.2.2.2)
    have G2 := hid9 (G.out.sets GC.out n2)
    clear n2
    go_wp2_with fail
    go_meet
    exact ⟨(some ⟨wc.heap.size, 0, none⟩, k, k), G2.out, Oz.out.chg GC.out (fun g hg e => by have := (Oz.out.lt g hg).1; omega)⟩
  case rest =>
   clear G 
   obtain ⟨x6, G, O2⟩ := hcut
   go_upto_region 6 with fail
   go_cut [] (fun wx => ∃ x7 : Option Addr × Nat × Nat, Hid (RS w w1 cs.toArray #[.int .i64 M.id, .int .i64 M.te, .int .i64 M.vo, .int .i64 M.lb, .int .i64 M.lt, M.lv, .bool M.s.x.lf, M.s.x.p, M.s.x.c, M.s.x.k, M.s.x.b, M.s.v, .int .i64 0, .slice x6.1 x6.2.1 x6.2.2, .slice x7.1 x7.2.1 x7.2.2, M.mv, .int .i64 M.cm, .bool M.o.x.lf, M.o.x.p, M.o.x.c, M.o.x.k, M.o.x.b, M.o.v] wx) ∧ Hid (OwnE wx (w1.heap.size + 1) 4 1 (.slice x6.1 x6.2.1 x6.2.2) k (List.replicate k (.bool false))) ∧ Hid (OwnE wx (w1.heap.size + 1) 3 1 (.slice x7.1 x7.2.1 x7.2.2) k (flatI (List.replicate k 1))))
   case first =>
    as_aux_lemma =>
     have cb := G.out.2.2.2.1
     go_wp2_with fail
     refine (LON.out _).mono ?_
     rintro e v3 ⟨z, rfl, oz, bz⟩
     obtain ⟨x7, hz⟩ := oz.sl
     subst hz
     have Oz := hid9 (OwnE.mono (base' := (w1.heap.size + 1)) oz cb)
     replace G := hid9 (G.out.step bz)
     replace O2 := hid9 (O2.out.below bz)
     clear oz bz
     have ff1 : ∀ j, v3.frozen? ⟨w1.heap.size, j, none⟩ = false := fun j => frozen_of_cells G.out.2.2.2.2.2.2
     have dd0 : ∀ j, v3.cell? ⟨w1.heap.size, j, none⟩ = (#[.int .i64 M.id, .int .i64 M.te, .int .i64 M.vo, .int .i64 M.lb, .int .i64 M.lt, M.lv, .bool M.s.x.lf, M.s.x.p, M.s.x.c, M.s.x.k, M.s.x.b, M.s.v, .int .i64 0, .slice x6.1 x6.2.1 x6.2.2, M.nv, M.mv, .int .i64 M.cm, .bool M.o.x.lf, M.o.x.p, M.o.x.c, M.o.x.k, M.o.x.b, M.o.v] : Array Value)[j]? := fun j => cell_of_cells G.out.2.2.2.2.2.2
     have GC := hid9 ((Chg.refl (fun g => g = w1.heap.size) v3).setAt (w1.heap.size) 14 rfl (.slice x7.1 x7.2.1 x7.2.2))
     have n2 : (v3.setCell ⟨w1.heap.size, 14, none⟩ (.slice x7.1 x7.2.1 x7.2.2)).heap[w1.heap.size]? = some (.cells #[.int .i64 M.id, .int .i64 M.te, .int .i64 M.vo, .int .i64 M.lb, .int .i64 M.lt, M.lv, .bool M.s.x.lf, M.s.x.p, M.s.x.c, M.s.x.k, M.s.x.b, M.s.v, .int .i64 0, .slice x6.1 x6.2.1 x6.2.2, .slice x7.1 x7.2.1 x7.2.2, M.mv, .int .i64 M.cm, .bool M.o.x.lf, M.o.x.p, M.o.x.c, M.o.x.k, M.o.x.b, M.o.v] 50 (0, 0)) := by simpa using (set_at 14 (.slice x7.1 x7.2.1 x7.2.2) G.out.2.2.2.2.2.2)
     have G2 := hid9 (G.out.sets GC.out n2)
     clear n2
     go_wp2_with fail
     go_meet
     exact ⟨x7, G2.out, O2.out.chg GC.out (fun g hg e => by have := (O2.out.lt g hg).1; omega), Oz.out.chg GC.out (fun g hg e => by have := (Oz.out.lt g hg).1; omega)⟩
   case rest =>
    clear G O2
    obtain ⟨x7, G, O2, O3⟩ := hcut
    go_upto_region 7 with fail
    go_cut [] (fun wx => ∃ x8 : Option Addr × Nat × Nat, Hid (RS w w1 cs.toArray #[.int .i64 M.id, .int .i64 M.te, .int .i64 M.vo, .int .i64 M.lb, .int .i64 M.lt, M.lv, .bool M.s.x.lf, M.s.x.p, M.s.x.c, M.s.x.k, M.s.x.b, M.s.v, .int .i64 0, .slice x6.1 x6.2.1 x6.2.2, .slice x7.1 x7.2.1 x7.2.2, .slice x8.1 x8.2.1 x8.2.2, .int .i64 M.cm, .bool M.o.x.lf, M.o.x.p, M.o.x.c, M.o.x.k, M.o.x.b, M.o.v] wx) ∧ Hid (OwnE wx (w1.heap.size + 1) 4 1 (.slice x6.1 x6.2.1 x6.2.2) k (List.replicate k (.bool false))) ∧ Hid (OwnE wx (w1.heap.size + 1) 3 1 (.slice x7.1 x7.2.1 x7.2.2) k (flatI (List.replicate k 1))) ∧ Hid (OwnE wx (w1.heap.size + 1) 3 1 (.slice x8.1 x8.2.1 x8.2.2) k (List.replicate k (.int .i64 0))))
    case first =>
     as_aux_lemma =>
      obtain ⟨i0, hi, hz0, hz1, hz2⟩ := info_parts Tryz.info3
      have cb := G.out.2.2.2.1
      go_wp2_with (at_make; refine wpList_make_full _ rfl _ _ 26 rfl wc.heap.size 3 i0 _ 1 Tryz.underlying26 hi hz0 hz1 .i64 .i64 _ _ k rfl rfl rfl rfl ?c1 ?c2 ?c3 ?_)
      case c1 => rw [hz2]; omega
      case c2 => unfold maxLen; omega
      case c3 => exact Nat.le_refl _
      intro v4 oz gz
      have bz : Below wc.heap.size wc v4 := (Below.refl _ _).grown gz (Nat.le_refl _) (fun k hk => by cases hk)
      rw [madeCells_all _ (.int .i64 0) (by decide) (fun i hi => by match i, hi with | 0, _ => rfl)] at oz
      have Oz : Hid (OwnE v4 (w1.heap.size + 1) 3 1 (.slice (some ⟨wc.heap.size, 0, none⟩) k k) k (List.replicate k (.int .i64 0))) := OwnE.mono (OwnE.of_owns (by simpa using oz)) cb
      clear hi hz0 hz1 hz2
      replace G := hid9 (G.out.step bz)
      replace O2 := hid9 (O2.out.below bz)
      replace O3 := hid9 (O3.out.below bz)
      clear oz bz gz
      have ff1 : ∀ j, v4.frozen? ⟨w1.heap.size, j, none⟩ = false := fun j => frozen_of_cells G.out.2.2.2.2.2.2
      have dd0 : ∀ j, v4.cell? ⟨w1.heap.size, j, none⟩ = (#[.int .i64 M.id, .int .i64 M.te, .int .i64 M.vo, .int .i64 M.lb, .int .i64 M.lt, M.lv, .bool M.s.x.lf, M.s.x.p, M.s.x.c, M.s.x.k, M.s.x.b, M.s.v, .int .i64 0, .slice x6.1 x6.2.1 x6.2.2, .slice x7.1 x7.2.1 x7.2.2, M.mv, .int .i64 M.cm, .bool M.o.x.lf, M.o.x.p, M.o.x.c, M.o.x.k, M.o.x.b, M.o.v] : Array Value)[j]? := fun j => cell_of_cells G.out.2.2.2.2.2.2
      have GC := hid9 ((Chg.refl (fun g => g = w1.heap.size) v4).setAt (w1.heap.size) 15 rfl (.slice (some ⟨wc.heap.size, 0, none⟩) k k))
      have n2 : (v4.setCell ⟨w1.heap.size, 15, none⟩ (.slice (some ⟨wc.heap.size, 0, none⟩) k k)).heap[w1.heap.size]? = some (.cells #[.int .i64 M.id, .int .i64 M.te, .int .i64 M.vo, .int .i64 M.lb, .int .i64 M.lt, M.lv, .bool M.s.x.lf, M.s.x.p, M.s.x.c, M.s.x.k, M.s.x.b, M.s.v, .int .i64 0, .slice x6.1 x6.2.1 x6.2.2, .slice x7.1 x7.2.1 x7.2.2, .slice (some ⟨wc.heap.size, 0, none⟩) k k, .int .i64 M.cm, .bool M.o.x.lf, M.o.x.p, M.o.x.c, M.o.x.k, M.o.x.b, M.o.v] 50 (0, 0)) := by simpa using (set_at 15 (.slice (some ⟨wc.heap.size, 0, none⟩) k k) G.out.2.2.2.2.2.2)
      have G2 := hid9 (G.out.sets GC.out n2)
      clear n2
      go_wp2_with fail
      go_meet
      exact ⟨(some ⟨wc.heap.size, 0, none⟩, k, k), G2.out, O2.out.chg GC.out (fun g hg e => by have := (O2.out.lt g hg).1; omega), O3.out.chg GC.out (fun g hg e => by have := (O3.out.lt g hg).1; omega), Oz.out.chg GC.out (fun g hg e => by have := (Oz.out.lt g hg).1; omega)⟩
    case rest =>
     clear G O2 O3
     obtain ⟨x8, G, O2, O3, O4⟩ := hcut
     go_upto_region 8 with fail
     go_cut [] (fun wx => Hid (RS w w1 cs.toArray #[.int .i64 M.id, .int .i64 M.te, .int .i64 M.vo, .int .i64 M.lb, .int .i64 M.lt, M.lv, .bool M.s.x.lf, M.s.x.p, M.s.x.c, M.s.x.k, M.s.x.b, M.s.v, .int .i64 0, .slice x6.1 x6.2.1 x6.2.2, .slice x7.1 x7.2.1 x7.2.2, .slice x8.1 x8.2.1 x8.2.2, .int .i64 lb, .bool M.o.x.lf, M.o.x.p, M.o.x.c, M.o.x.k, M.o.x.b, M.o.v] wx) ∧ Hid (OwnE wx (w1.heap.size + 1) 4 1 (.slice x6.1 x6.2.1 x6.2.2) k (List.replicate k (.bool false))) ∧ Hid (OwnE wx (w1.heap.size + 1) 3 1 (.slice x7.1 x7.2.1 x7.2.2) k (flatI (List.replicate k 1))) ∧ Hid (OwnE wx (w1.heap.size + 1) 3 1 (.slice x8.1 x8.2.1 x8.2.2) k (List.replicate k (.int .i64 0))))
     case first =>
      as_aux_lemma =>
       obtain ⟨e3, e6, e7, e8, e9, e10, e11⟩ := CC.out _ G.out.2.2.2.2.1
       have ff1 : ∀ j, wc.frozen? ⟨w1.heap.size, j, none⟩ = false := fun j => frozen_of_cells G.out.2.2.2.2.2.2
       have dd0 : ∀ j, wc.cell? ⟨w1.heap.size, j, none⟩ = (#[.int .i64 M.id, .int .i64 M.te, .int .i64 M.vo, .int .i64 M.lb, .int .i64 M.lt, M.lv, .bool M.s.x.lf, M.s.x.p, M.s.x.c, M.s.x.k, M.s.x.b, M.s.v, .int .i64 0, .slice x6.1 x6.2.1 x6.2.2, .slice x7.1 x7.2.1 x7.2.2, .slice x8.1 x8.2.1 x8.2.2, .int .i64 M.cm, .bool M.o.x.lf, M.o.x.p, M.o.x.c, M.o.x.k, M.o.x.b, M.o.v] : Array Value)[j]? := fun j => cell_of_cells G.out.2.2.2.2.2.2
       have GC := hid9 ((Chg.refl (fun g => g = w1.heap.size) wc).setAt (w1.heap.size) 16 rfl (.int .i64 lb))
       have n2 : (wc.setCell ⟨w1.heap.size, 16, none⟩ (.int .i64 lb)).heap[w1.heap.size]? = some (.cells #[.int .i64 M.id, .int .i64 M.te, .int .i64 M.vo, .int .i64 M.lb, .int .i64 M.lt, M.lv, .bool M.s.x.lf, M.s.x.p, M.s.x.c, M.s.x.k, M.s.x.b, M.s.v, .int .i64 0, .slice x6.1 x6.2.1 x6.2.2, .slice x7.1 x7.2.1 x7.2.2, .slice x8.1 x8.2.1 x8.2.2, .int .i64 lb, .bool M.o.x.lf, M.o.x.p, M.o.x.c, M.o.x.k, M.o.x.b, M.o.v] 50 (0, 0)) := by simpa using (set_at 16 (.int .i64 lb) G.out.2.2.2.2.2.2)
       have G2 := hid9 (G.out.sets GC.out n2)
       clear n2
       go_wp2_with fail
       go_meet
       exact ⟨G2.out, O2.out.chg GC.out (fun g hg e => by have := (O2.out.lt g hg).1; omega), O3.out.chg GC.out (fun g hg e => by have := (O3.out.lt g hg).1; omega), O4.out.chg GC.out (fun g hg e => by have := (O4.out.lt g hg).1; omega)⟩
     case rest =>
      clear G O2 O3 O4
      obtain ⟨G, O2, O3, O4⟩ := hcut
      go_upto_region 9 with fail
      go_cut [] (fun wx => ∃ (l2 : Bool) (x9 x10 x11 x12 x13 : Option Addr × Nat × Nat), Hid (RS w w1 cs.toArray #[.int .i64 M.id, .int .i64 M.te, .int .i64 M.vo, .int .i64 M.lb, .int .i64 M.lt, M.lv, .bool M.s.x.lf, M.s.x.p, M.s.x.c, M.s.x.k, M.s.x.b, M.s.v, .int .i64 0, .slice x6.1 x6.2.1 x6.2.2, .slice x7.1 x7.2.1 x7.2.2, .slice x8.1 x8.2.1 x8.2.2, .int .i64 lb, .bool l2, .slice x9.1 x9.2.1 x9.2.2, .slice x10.1 x10.2.1 x10.2.2, .slice x11.1 x11.2.1 x11.2.2, .slice x12.1 x12.2.1 x12.2.2, .slice x13.1 x13.2.1 x13.2.2] wx) ∧ Hid (OwnE wx (w1.heap.size + 1) 4 1 (.slice x6.1 x6.2.1 x6.2.2) k (List.replicate k (.bool false))) ∧ Hid (OwnE wx (w1.heap.size + 1) 3 1 (.slice x7.1 x7.2.1 x7.2.2) k (flatI (List.replicate k 1))) ∧ Hid (OwnE wx (w1.heap.size + 1) 3 1 (.slice x8.1 x8.2.1 x8.2.2) k (List.replicate k (.int .i64 0))) ∧ Hid (MacD n wx (fun g => (w1.heap.size + 1) ≤ g) ⟨⟨l2, .slice x9.1 x9.2.1 x9.2.2, .slice x10.1 x10.2.1 x10.2.2, .slice x11.1 x11.2.1 x11.2.2, .slice x12.1 x12.2.1 x12.2.2⟩, .slice x13.1 x13.2.1 x13.2.2⟩ D.T1 D.d1))
      case first =>
       as_aux_lemma =>
        obtain ⟨e3, e6, e7, e8, e9, e10, e11⟩ := CC.out _ G.out.2.2.2.2.1
        have cb := G.out.2.2.2.1
        go_wp2_with fail
        refine (LC.out _ G.out.1).mono ?_
        rintro e v6 ⟨z, rfl, oz, bz⟩
        obtain ⟨l2, x9, x10, x11, x12, x13, hz⟩ := oz.sl
        subst hz
        have Oz := hid9 (MacD.mono (G := fun g => (w1.heap.size + 1) ≤ g) oz (fun g h => by omega))
        replace G := hid9 (G.out.step bz)
        replace O2 := hid9 (O2.out.below bz)
        replace O3 := hid9 (O3.out.below bz)
        replace O4 := hid9 (O4.out.below bz)
        clear oz bz
        clear e3 e6 e7 e8 e9 e10 e11
        have ff1 : ∀ j, v6.frozen? ⟨w1.heap.size, j, none⟩ = false := fun j => frozen_of_cells G.out.2.2.2.2.2.2
        have dd0 : ∀ j, v6.cell? ⟨w1.heap.size, j, none⟩ = (#[.int .i64 M.id, .int .i64 M.te, .int .i64 M.vo, .int .i64 M.lb, .int .i64 M.lt, M.lv, .bool M.s.x.lf, M.s.x.p, M.s.x.c, M.s.x.k, M.s.x.b, M.s.v, .int .i64 0, .slice x6.1 x6.2.1 x6.2.2, .slice x7.1 x7.2.1 x7.2.2, .slice x8.1 x8.2.1 x8.2.2, .int .i64 lb, .bool M.o.x.lf, M.o.x.p, M.o.x.c, M.o.x.k, M.o.x.b, M.o.v] : Array Value)[j]? := fun j => cell_of_cells G.out.2.2.2.2.2.2
        have GC := hid9 (((((((Chg.refl (fun g => g = w1.heap.size) v6).setAt (w1.heap.size) 17 rfl (.bool l2)).setAt (w1.heap.size) 18 rfl (.slice x9.1 x9.2.1 x9.2.2)).setAt (w1.heap.size) 19 rfl (.slice x10.1 x10.2.1 x10.2.2)).setAt (w1.heap.size) 20 rfl (.slice x11.1 x11.2.1 x11.2.2)).setAt (w1.heap.size) 21 rfl (.slice x12.1 x12.2.1 x12.2.2)).setAt (w1.heap.size) 22 rfl (.slice x13.1 x13.2.1 x13.2.2))
        have n2 : ((((((v6.setCell ⟨w1.heap.size, 17, none⟩ (.bool l2)).setCell ⟨w1.heap.size, 18, none⟩ (.slice x9.1 x9.2.1 x9.2.2)).setCell ⟨w1.heap.size, 19, none⟩ (.slice x10.1 x10.2.1 x10.2.2)).setCell ⟨w1.heap.size, 20, none⟩ (.slice x11.1 x11.2.1 x11.2.2)).setCell ⟨w1.heap.size, 21, none⟩ (.slice x12.1 x12.2.1 x12.2.2)).setCell ⟨w1.heap.size, 22, none⟩ (.slice x13.1 x13.2.1 x13.2.2)).heap[w1.heap.size]? = some (.cells #[.int .i64 M.id, .int .i64 M.te, .int .i64 M.vo, .int .i64 M.lb, .int .i64 M.lt, M.lv, .bool M.s.x.lf, M.s.x.p, M.s.x.c, M.s.x.k, M.s.x.b, M.s.v, .int .i64 0, .slice x6.1 x6.2.1 x6.2.2, .slice x7.1 x7.2.1 x7.2.2, .slice x8.1 x8.2.1 x8.2.2, .int .i64 lb, .bool l2, .slice x9.1 x9.2.1 x9.2.2, .slice x10.1 x10.2.1 x10.2.2, .slice x11.1 x11.2.1 x11.2.2, .slice x12.1 x12.2.1 x12.2.2, .slice x13.1 x13.2.1 x13.2.2] 50 (0, 0)) := by simpa using (set_at 22 (.slice x13.1 x13.2.1 x13.2.2) (set_at 21 (.slice x12.1 x12.2.1 x12.2.2) (set_at 20 (.slice x11.1 x11.2.1 x11.2.2) (set_at 19 (.slice x10.1 x10.2.1 x10.2.2) (set_at 18 (.slice x9.1 x9.2.1 x9.2.2) (set_at 17 (.bool l2) G.out.2.2.2.2.2.2))))))
        have G2 := hid9 (G.out.sets GC.out n2)
        clear n2
        go_wp2_with fail
        go_meet
        exact ⟨l2, x9, x10, x11, x12, x13, G2.out, O2.out.chg GC.out (fun g hg e => by have := (O2.out.lt g hg).1; omega), O3.out.chg GC.out (fun g hg e => by have := (O3.out.lt g hg).1; omega), O4.out.chg GC.out (fun g hg e => by have := (O4.out.lt g hg).1; omega), Oz.out.chg GC.out (fun g hg e => by omega)⟩
      case rest =>
       clear G O2 O3 O4
       obtain ⟨l2, x9, x10, x11, x12, x13, G, O2, O3, O4, O6⟩ := hcut
       have NW := ND.out.below G.out.2.1
       have cb0 := G.out.2.2.1
       have NB : Hid (NodB n wc (w.heap.size + 2) ⟨M.id, M.te, M.vo, M.lb, M.lt, M.lv, M.s, 0, .slice x6.1 x6.2.1 x6.2.2, .slice x7.1 x7.2.1 x7.2.2, .slice x8.1 x8.2.1 x8.2.2, lb, ⟨⟨l2, .slice x9.1 x9.2.1 x9.2.2, .slice x10.1 x10.2.1 x10.2.2, .slice x11.1 x11.2.1 x11.2.2, .slice x12.1 x12.2.1 x12.2.2⟩, .slice x13.1 x13.2.1 x13.2.2⟩⟩ (riseD true D)) := by
        refine ⟨NW.1, NW.2.1, ?_, ?_, ?_, O6.out.mono (fun g h => by omega)⟩
        ·show OwnE wc _ _ _ _ (List.replicate D.vs.length false).length (flatL (List.replicate D.vs.length false))
         rw [flatL_rep, List.length_replicate, HK.out.1]
         exact O2.out.mono (by omega)
        ·show OwnE wc _ _ _ _ (List.replicate D.nx.length (1 : Int)).length (flatI (List.replicate D.nx.length 1))
         rw [List.length_replicate, HK.out.2.1]
         exact O3.out.mono (by omega)
        ·show OwnE wc _ _ _ _ (List.replicate D.mt.length (0 : Int)).length (flatI (List.replicate D.mt.length 0))
         rw [flatI_rep, List.length_replicate, HK.out.2.2]
         exact O4.out.mono (by omega)
       have RL : Hid (riseL true ⟨id, te, vo, lb, lt, lv, ⟨⟨sl, sp, sc, sk, sb⟩, sv⟩, ro, vv, nv, mv, cm, ⟨⟨ol, op, oc, ok, ob⟩, ov⟩⟩ ⟨M.id, M.te, M.vo, M.lb, M.lt, M.lv, M.s, 0, .slice x6.1 x6.2.1 x6.2.2, .slice x7.1 x7.2.1 x7.2.2, .slice x8.1 x8.2.1 x8.2.2, lb, ⟨⟨l2, .slice x9.1 x9.2.1 x9.2.2, .slice x10.1 x10.2.1 x10.2.2, .slice x11.1 x11.2.1 x11.2.2, .slice x12.1 x12.2.1 x12.2.2⟩, .slice x13.1 x13.2.1 x13.2.2⟩⟩) := by
        obtain ⟨a1, a2, a3, a4, a5, a6, a7⟩ := LK.out
        exact ⟨a1, a2, a3, a4, a5, rfl, rfl⟩
       obtain ⟨ks, ksv, ksl, kso⟩ := NB.out.at.cells
       have hks : #[.int .i64 M.id, .int .i64 M.te, .int .i64 M.vo, .int .i64 M.lb, .int .i64 M.lt, M.lv, .bool M.s.x.lf, M.s.x.p, M.s.x.c, M.s.x.k, M.s.x.b, M.s.v, .int .i64 0, .slice x6.1 x6.2.1 x6.2.2, .slice x7.1 x7.2.1 x7.2.2, .slice x8.1 x8.2.1 x8.2.2, .int .i64 lb, .bool l2, .slice x9.1 x9.2.1 x9.2.2, .slice x10.1 x10.2.1 x10.2.2, .slice x11.1 x11.2.1 x11.2.2, .slice x12.1 x12.2.1 x12.2.2, .slice x13.1 x13.2.1 x13.2.2] = ks.toArray := by have e2 := ksv; simp only [NodV.val] at e2; injection e2
       replace G : Hid (RS w w1 cs.toArray ks.toArray wc) := by have := G.out; rw [hks] at this; exact this
       clear hks NW O2 O3 O4 O6 LON LC CC LK ND
       have RG : Hid (wc.rangeAt w1.heap.size 0 ks) := by have := range_of G.out.2.2.2.2.2.2; rw [List.toList_toArray] at this; exact this
       have TH2 : Hid (wc.there (w.heap.size + 1) 0 ks.toArray.size) := there_of G.out.2.2.2.2.2.1 (show 23 = ks.toArray.size by rw [List.size_toArray, ksl])
       have GC : Hid (Chg (fun g => g = (w.heap.size + 1)) wc (wc.setCells (w.heap.size + 1) 0 ks)) := Chg.setCells (F := fun g => g = (w.heap.size + 1)) (g := (w.heap.size + 1)) (fun _ => rfl) ks 0 wc (Chg.refl _ _)
       have XF : Hid ((wc.setCells (w.heap.size + 1) 0 ks).heap[(w.heap.size + 1)]? = some (.cells ks.toArray 50 (0, 0))) := setAll_at G.out.2.2.2.2.2.1 ks (by rw [ksl]; rfl)
       have HM1 : Hid ((Tryz.prog.info? 50).map (·.size) = some ks.length) := by show _ = _; rw [ksl]; kernel_rfl
       have HM2 : Hid ((Tryz.prog.info? 50).map (·.size) = some ks.toArray.size) := by show _ = _; rw [List.size_toArray]; exact HM1.out
       have CB := G.out.2.2.1
       have BL := hid9 (G.out.1.trans (GC.out.below (fun g _ hg => by omega) G.out.1.size))
       have BN := hid9 (GC.out)
       have FIN : Hid (∃ K : NodV, Value.agg ks.toArray = K.val ∧ riseL true ⟨id, te, vo, lb, lt, lv, ⟨⟨sl, sp, sc, sk, sb⟩, sv⟩, ro, vv, nv, mv, cm, ⟨⟨ol, op, oc, ok, ob⟩, ov⟩⟩ K ∧ NodAt n (wc.setCells (w.heap.size + 1) 0 ks) K (riseD true D) ∧ Below w.heap.size w (wc.setCells (w.heap.size + 1) 0 ks)) := ⟨_, ksv.symm, RL.out, (NB.out.chg BN.out (fun g h1 _ h2 => by omega)).at, BL.out⟩
       clear GC BN G RL NB BL
       go_wp2_with (first | (refine wpList_load_mid rfl 50 _ rfl w1.heap.size 0 rfl ks _ RG.out Tryz.underlying50 rfl HM1.out ?_) | (refine wpList_store_mid rfl 50 _ _ rfl (w.heap.size + 1) 0 ks.toArray rfl rfl TH2.out HM2.out kso ?_))
       generalize wc.setCells (w.heap.size + 1) 0 ks = WF at *
       exact ⟨rfl, _, results_cell_row Tryz.results6 _ WF (w.heap.size + 1) 50 ks.toArray (0, 0) _ rfl XF.out Tryz.underlying50 rfl HM2.out, (by obtain ⟨K, e, r⟩ := FIN.out; exact ⟨K, by rw [e], r⟩)⟩

theorem specRise_any (n : Nat) (N : NodV) (D : Nd) (size : Int) (w : World) (h : NodAt n w N D) (hs : D.small n) :
  Calls Tryz.prog 6 #[N.val, .int .i64 size] w fun e w' => ∃ K : NodV, e = .returned K.val ∧ riseL (nodeOkB N D size) N K ∧ NodAt n w' K (riseD (nodeOkB N D size) D) ∧ Below w.heap.size w w' := by
 cases hb : nodeOkB N D size
 ·refine (specRise_no n N D size w h hs hb).mono ?_
  rintro e w' ⟨K, h1, h2, h3, h4⟩
  exact ⟨K, h1, riseL.no h2, h3, h4⟩
 ·obtain ⟨h1, h2, h3, h4⟩ := nodeOkB_sizes hb
  subst h1
  exact specRise_yes n N D D.vs.length w h hs rfl (by omega) (by omega) (by omega) hb
end
end Go.Proofs.YtmdajbbpigbdcaaGreat
