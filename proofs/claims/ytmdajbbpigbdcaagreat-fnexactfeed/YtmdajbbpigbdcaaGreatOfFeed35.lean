/-
  The model's Feed.
-/
import Derived.Test.YtmdajbbpigbdcaaGreatOfFeed34
import Derived.Test.YtmdajbbpigbdcaaGreatOfFeed33
namespace Go.Proofs.YtmdajbbpigbdcaaGreat
set_option maxRecDepth 100000
set_option maxHeartbeats 8000000
section
open Go.RowKit

theorem run_l7C (args : Array Value) (w : World) : (callFunc 24 args).run Tryz.prog w = .ok (.enter 24 args) w := by go_simp
theorem run_term (args : Array Value) (w : World) : (callFunc 45 args).run Tryz.prog w = .ok (.enter 45 args) w := by go_simp
theorem run_ents (args : Array Value) (w : World) : (callFunc 46 args).run Tryz.prog w = .ok (.enter 46 args) w := by go_simp

theorem specFeed_any (n : Nat) (N : NodV) (D : Nd) (size ti : Int) (w : World) (h : NodAt n w N D) (hs : D.small n) :
  Calls Tryz.prog 12 #[N.val, .int .i64 size, .int .i64 ti] w fun e w' => ∃ K : RpcV, e = .returned (.tuple #[K.val, .bool (feedB N D size ti)]) ∧ (feedV N D size ti).like K ∧ RpcAt n w' K (feedD N D size ti) ∧ Below w.heap.size w w' := by
 have OK : Hid (∀ u, Below w.heap.size w u → Calls Tryz.prog 22 #[N.val, .int .i64 size] u fun e w' => e = .returned (.bool (nodeOkB N D size)) ∧ Below u.heap.size u w') := fun u hu => specNodeOk_any n N D size u (h.below hu) hs
 have FP : Hid (feedB N D size ti = true → ∃ tn : Nat, ti = tn ∧ tn < D.nx.length ∧ I64 N.lb ∧ I64 (feedX D ti) ∧ I64 (feedX D ti - 1)) := feedB_parts
 have C7 : Hid (∀ u, Below w.heap.size w u → Calls Tryz.prog 24 #[N.s.val] u fun e w' => ∃ m' : MacV, e = .returned m'.val ∧ MacD n w' (fun g => u.heap.size ≤ g) m' D.T1 D.d1 ∧ Below u.heap.size u w') := fun u hu => l7Copy_any n N.s D.T1 D.d1 u (h.2.1.below hu) (by have := hs.2.1; omega) hs.2.2.1
 have CT : Hid (feedB N D size ti = true → ∀ u, Below w.heap.size w u → Calls Tryz.prog 45 #[lgV N.lb N.lt N.lv, .int .i64 (feedX D ti - 1)] u fun e w' => e = .returned (.int .i64 (termB N.lb N.lt D.l (feedX D ti - 1))) ∧ Below u.heap.size u w') := fun hf u hu => by
  obtain ⟨tn, p1, p2, p3, p4, p5⟩ := feedB_parts hf
  exact specTermAt_any N.lb N.lt N.lv D.l _ u (h.1.below hu) p3 p5
 have CE : Hid (feedB N D size ti = true → ∀ u, Below w.heap.size w u → Calls Tryz.prog 46 #[lgV N.lb N.lt N.lv, .int .i64 (feedX D ti)] u fun e w' => ∃ v', e = .returned v' ∧ OwnE w' u.heap.size 113 6 v' (entsB N.lb D.l (feedX D ti)).length (flatE (entsB N.lb D.l (feedX D ti))) ∧ Below u.heap.size u w') := fun hf u hu => by
  obtain ⟨tn, p1, p2, p3, p4, p5⟩ := feedB_parts hf
  exact specEntriesFrom_any N.lb N.lt N.lv D.l _ u (h.1.below hu) p3 p4 (by have := hs.1; omega)
 have NOF : Hid (feedB N D size ti = false → feedV N D size ti = rpNo ∧ feedD N D size ti = ⟨[], zT, []⟩) := fun hf => by
  unfold feedV feedD
  rw [hf]
  exact ⟨rfl, rfl⟩
 have SNF : Hid (feedB N D size ti = true → feedX D ti ≤ N.lb → feedV N D size ti = rpSn N ti (.slice none 0 0) zM ∧ feedD N D size ti = ⟨[], D.T1, D.d1⟩) := fun hf hx => by
  unfold feedV feedD
  rw [if_pos hf, if_pos hx, if_pos hf, if_pos hx]
  exact ⟨rfl, rfl⟩
 have PUF : Hid (feedB N D size ti = true → ¬ feedX D ti ≤ N.lb → feedV N D size ti = rpPu N D ti (.slice none 0 0) zM ∧ feedD N D size ti = ⟨entsB N.lb D.l (feedX D ti), zT, []⟩) := fun hf hx => by
  unfold feedV feedD
  rw [if_pos hf, if_neg hx, if_pos hf, if_neg hx]
  exact ⟨rfl, rfl⟩
 have FB : Hid (feedB N D size ti = (nodeOkB N D size && (decide (N.ro = 2) && (decide (¬ ti = N.id) && inB ti 0 (size - 1))))) := rfl
 have SZ : Hid (nodeOkB N D size = true → size ≤ 5 ∧ 0 ≤ size) := fun h1 => by
  obtain ⟨z1, z2, z3, z4⟩ := nodeOkB_sizes h1
  omega
 obtain ⟨n', hn'⟩ : ∃ n', n = n' + 1 := by
  cases n with
  | zero => exact (h.2.1.1).elim
  | succ n' => exact ⟨n', rfl⟩
 have HN' := hid9 hn'
 clear hn'
 obtain ⟨an, bN, oN, cn, hnv, hcn, hmn, han, hxn⟩ := h.2.2.2.1.ints
 have RN : Hid (∀ (tn : Nat) u, ti = tn → tn < D.nx.length → Below w.heap.size w u → u.cell? ⟨bN, oN + tn, none⟩ = some (.int .i64 (feedX D ti)) ∧ an = some ⟨bN, oN, none⟩) := fun tn u e ht hu => by
  subst e
  have hx0 : feedX D (tn : Int) = iAt D.nx tn := by simp [feedX]
  rw [hx0]
  exact ⟨(hu.cell (cell_lt (hxn tn ht))).trans (hxn tn ht), han (by omega)⟩
 have RPU : Hid (∀ ev m, rpPu N D ti ev m = ⟨3, N.id, ti, N.te, feedX D ti - 1, termB N.lb N.lt D.l (feedX D ti - 1), N.cm, false, ev, m⟩) := fun ev m => rfl
 clear h hs hxn han hcn
 unfold maxLen at hmn
 generalize nodeOkB N D size = b1 at *
 generalize feedV N D size ti = FV at *
 generalize feedD N D size ti = FD at *
 generalize feedB N D size ti = bf at *
 generalize rpPu N D ti = rpP at *
 generalize feedX D ti = fx at *
 generalize D.nx.length = nN at *
 obtain ⟨id, nte, vo, lb, lt, lv, ⟨⟨sl, sp, sc, sk, sb⟩, sv⟩, ro, vv, nv, mv, ncm, ⟨⟨ol, op, oc, ok, ob⟩, ov⟩⟩ := N
 simp only at hnv
 subst hnv
 replace OK : Hid (∀ u, Below w.heap.size w u → Calls Tryz.prog 22 #[.agg (List.toArray ([.int .i64 id, .int .i64 nte, .int .i64 vo, .int .i64 lb, .int .i64 lt, lv, .bool sl, sp, sc, sk, sb, sv, .int .i64 ro, vv, .slice an nN cn, mv, .int .i64 ncm, .bool ol, op, oc, ok, ob, ov] : List Value)), .int .i64 size] u fun e w' => e = .returned (.bool b1) ∧ Below u.heap.size u w') := OK
 have HI : Hid ((Tryz.prog.info? 50).map (·.size) = some (List.length ([.int .i64 id, .int .i64 nte, .int .i64 vo, .int .i64 lb, .int .i64 lt, lv, .bool sl, sp, sc, sk, sb, sv, .int .i64 ro, vv, .slice an nN cn, mv, .int .i64 ncm, .bool ol, op, oc, ok, ob, ov] : List Value))) := (show (Tryz.prog.info? 50).map (·.size) = some 23 by kernel_rfl)
 have B1 : Hid (Below w.heap.size w ((w.alloc (.cells #[.int .i64 id, .int .i64 nte, .int .i64 vo, .int .i64 lb, .int .i64 lt, lv, .bool sl, sp, sc, sk, sb, sv, .int .i64 ro, vv, .slice an nN cn, mv, .int .i64 ncm, .bool ol, op, oc, ok, ob, ov] 50)).alloc (.cells #[.int .i64 0, .int .i64 0, .int .i64 0, .int .i64 0, .int .i64 0, .int .i64 0, .int .i64 0, .bool false, .slice none 0 0, .bool false, .slice none 0 0, .slice none 0 0, .slice none 0 0, .slice none 0 0, .slice none 0 0] 57))) := Below.and (bel_nw _ _) (bel_nw _ _)
 have Y1 : Hid (((w.alloc (.cells #[.int .i64 id, .int .i64 nte, .int .i64 vo, .int .i64 lb, .int .i64 lt, lv, .bool sl, sp, sc, sk, sb, sv, .int .i64 ro, vv, .slice an nN cn, mv, .int .i64 ncm, .bool ol, op, oc, ok, ob, ov] 50)).alloc (.cells #[.int .i64 0, .int .i64 0, .int .i64 0, .int .i64 0, .int .i64 0, .int .i64 0, .int .i64 0, .bool false, .slice none 0 0, .bool false, .slice none 0 0, .slice none 0 0, .slice none 0 0, .slice none 0 0, .slice none 0 0] 57)).heap[w.heap.size]? = some (.cells (List.toArray ([.int .i64 id, .int .i64 nte, .int .i64 vo, .int .i64 lb, .int .i64 lt, lv, .bool sl, sp, sc, sk, sb, sv, .int .i64 ro, vv, .slice an nN cn, mv, .int .i64 ncm, .bool ol, op, oc, ok, ob, ov] : List Value)) 50 (0, 0))) := step_at (MBox.start 50 w #[.int .i64 id, .int .i64 nte, .int .i64 vo, .int .i64 lb, .int .i64 lt, lv, .bool sl, sp, sc, sk, sb, sv, .int .i64 ro, vv, .slice an nN cn, mv, .int .i64 ncm, .bool ol, op, oc, ok, ob, ov]) (bel_nw _ _)
 have Y2 : Hid (((w.alloc (.cells #[.int .i64 id, .int .i64 nte, .int .i64 vo, .int .i64 lb, .int .i64 lt, lv, .bool sl, sp, sc, sk, sb, sv, .int .i64 ro, vv, .slice an nN cn, mv, .int .i64 ncm, .bool ol, op, oc, ok, ob, ov] 50)).alloc (.cells #[.int .i64 0, .int .i64 0, .int .i64 0, .int .i64 0, .int .i64 0, .int .i64 0, .int .i64 0, .bool false, .slice none 0 0, .bool false, .slice none 0 0, .slice none 0 0, .slice none 0 0, .slice none 0 0, .slice none 0 0] 57)).heap[w.heap.size + 1]? = some (.cells #[.int .i64 0, .int .i64 0, .int .i64 0, .int .i64 0, .int .i64 0, .int .i64 0, .int .i64 0, .bool false, .slice none 0 0, .bool false, .slice none 0 0, .slice none 0 0, .slice none 0 0, .slice none 0 0, .slice none 0 0] 57 (0, 0))) := by
  have := MBox.start 57 (w.alloc (.cells #[.int .i64 id, .int .i64 nte, .int .i64 vo, .int .i64 lb, .int .i64 lt, lv, .bool sl, sp, sc, sk, sb, sv, .int .i64 ro, vv, .slice an nN cn, mv, .int .i64 ncm, .bool ol, op, oc, ok, ob, ov] 50)) #[.int .i64 0, .int .i64 0, .int .i64 0, .int .i64 0, .int .i64 0, .int .i64 0, .int .i64 0, .bool false, .slice none 0 0, .bool false, .slice none 0 0, .slice none 0 0, .slice none 0 0, .slice none 0 0, .slice none 0 0]
  rw [World.size_alloc] at this
  exact this
 have zw : Hid (w.heap.size + 2 ≤ ((w.alloc (.cells #[.int .i64 id, .int .i64 nte, .int .i64 vo, .int .i64 lb, .int .i64 lt, lv, .bool sl, sp, sc, sk, sb, sv, .int .i64 ro, vv, .slice an nN cn, mv, .int .i64 ncm, .bool ol, op, oc, ok, ob, ov] 50)).alloc (.cells #[.int .i64 0, .int .i64 0, .int .i64 0, .int .i64 0, .int .i64 0, .int .i64 0, .int .i64 0, .bool false, .slice none 0 0, .bool false, .slice none 0 0, .slice none 0 0, .slice none 0 0, .slice none 0 0, .slice none 0 0] 57)).heap.size) := by show _ ≤ _; simp
 have CC : Hid (∀ u : World, u.heap[w.heap.size]? = some (.cells (List.toArray ([.int .i64 id, .int .i64 nte, .int .i64 vo, .int .i64 lb, .int .i64 lt, lv, .bool sl, sp, sc, sk, sb, sv, .int .i64 ro, vv, .slice an nN cn, mv, .int .i64 ncm, .bool ol, op, oc, ok, ob, ov] : List Value)) 50 (0, 0)) → (fun u : World => u.cell? ⟨w.heap.size, 0, none⟩ = some (.int .i64 id) ∧ u.cell? ⟨w.heap.size, 1, none⟩ = some (.int .i64 nte) ∧ u.cell? ⟨w.heap.size, 3, none⟩ = some (.int .i64 lb) ∧ u.cell? ⟨w.heap.size, 4, none⟩ = some (.int .i64 lt) ∧ u.cell? ⟨w.heap.size, 16, none⟩ = some (.int .i64 ncm) ∧ u.rangeAt w.heap.size 3 ([.int .i64 lb, .int .i64 lt, lv] : List Value) ∧ u.rangeAt w.heap.size 6 ([.bool sl, sp, sc, sk, sb, sv] : List Value)) u) := fun u hu => ⟨cell_of_cells hu, cell_of_cells hu, cell_of_cells hu, cell_of_cells hu, cell_of_cells hu, fun j v hv => by rcases j with _ | _ | _ | j <;> simp at hv <;> (try subst hv) <;> (try exact cell_of_cells hu), fun j v hv => by rcases j with _ | _ | _ | _ | _ | _ | j <;> simp at hv <;> (try subst hv) <;> (try exact cell_of_cells hu)⟩
 have C14 : Hid (∀ u : World, u.heap[w.heap.size]? = some (.cells (List.toArray ([.int .i64 id, .int .i64 nte, .int .i64 vo, .int .i64 lb, .int .i64 lt, lv, .bool sl, sp, sc, sk, sb, sv, .int .i64 ro, vv, .slice an nN cn, mv, .int .i64 ncm, .bool ol, op, oc, ok, ob, ov] : List Value)) 50 (0, 0)) → u.cell? ⟨w.heap.size, 14, none⟩ = some (.slice an nN cn) ∧ u.cell? ⟨w.heap.size, 12, none⟩ = some (.int .i64 ro)) := fun u hu => ⟨cell_of_cells hu, cell_of_cells hu⟩
 show Calls Tryz.prog 12 #[.agg #[.int .i64 id, .int .i64 nte, .int .i64 vo, .int .i64 lb, .int .i64 lt, lv, .bool sl, sp, sc, sk, sb, sv, .int .i64 ro, vv, .slice an nN cn, mv, .int .i64 ncm, .bool ol, op, oc, ok, ob, ov], .int .i64 size, .int .i64 ti] w _
 go_enter Tryz.func12, Tryz.ntmps12
 go_upto_region 1 with fail
 generalize ((w.alloc (.cells #[.int .i64 id, .int .i64 nte, .int .i64 vo, .int .i64 lb, .int .i64 lt, lv, .bool sl, sp, sc, sk, sb, sv, .int .i64 ro, vv, .slice an nN cn, mv, .int .i64 ncm, .bool ol, op, oc, ok, ob, ov] 50)).alloc (.cells #[.int .i64 0, .int .i64 0, .int .i64 0, .int .i64 0, .int .i64 0, .int .i64 0, .int .i64 0, .bool false, .slice none 0 0, .bool false, .slice none 0 0, .slice none 0 0, .slice none 0 0, .slice none 0 0, .slice none 0 0] 57)) = W at *
 go_cut [30] (fun x30 wx => x30 = .bool (!bf) ∧ Hid (wx.heap[w.heap.size]? = some (.cells (List.toArray ([.int .i64 id, .int .i64 nte, .int .i64 vo, .int .i64 lb, .int .i64 lt, lv, .bool sl, sp, sc, sk, sb, sv, .int .i64 ro, vv, .slice an nN cn, mv, .int .i64 ncm, .bool ol, op, oc, ok, ob, ov] : List Value)) 50 (0, 0))) ∧ Hid (wx.heap[w.heap.size + 1]? = some (.cells #[.int .i64 0, .int .i64 0, .int .i64 0, .int .i64 0, .int .i64 0, .int .i64 0, .int .i64 0, .bool false, .slice none 0 0, .bool false, .slice none 0 0, .slice none 0 0, .slice none 0 0, .slice none 0 0, .slice none 0 0] 57 (0, 0))) ∧ Hid (Below w.heap.size w wx) ∧ Hid (w.heap.size + 2 ≤ wx.heap.size))
 case first =>
  as_aux_lemma =>
   have ra := range_of Y1.out
   rw [List.toList_toArray] at ra
   go_wp2_with (refine wpList_load_g (by rfl) 50 _ rfl w.heap.size 0 rfl ([.int .i64 id, .int .i64 nte, .int .i64 vo, .int .i64 lb, .int .i64 lt, lv, .bool sl, sp, sc, sk, sb, sv, .int .i64 ro, vv, .slice an nN cn, mv, .int .i64 ncm, .bool ol, op, oc, ok, ob, ov] : List Value) _ ra Tryz.underlying50 rfl HI.out ?_)
   refine (OK.out _ B1.out).mono ?_
   rintro e w1 ⟨rfl, b2⟩
   replace Y1 := hid9 (step_at Y1.out b2)
   replace Y2 := hid9 (step_at Y2.out b2)
   replace B1 := hid9 (Below.and B1.out b2)
   replace zw := hid9 (Nat.le_trans zw.out b2.size)
   clear b2 ra
   cases h1 : b1
   ·go_wp2_with fail
    go_meet
    exact ⟨by rw [FB.out, h1]; rfl, Y1.out, Y2.out, B1.out, zw.out⟩
   obtain ⟨k14, k12⟩ := C14.out _ Y1.out
   obtain ⟨k0, -, -, -, -, -, -⟩ := CC.out _ Y1.out
   obtain ⟨hz1, hz2⟩ := SZ.out h1
   have hws : IntKind.i64.wrap (size - 1) = size - 1 := by rw [IntKind.wrap_i64]; omega
   clear k14 hz1 hz2
   by_cases h2 : ro = 2
   rotate_left
   ·have h2b : (ro != 2) = true := by simpa using h2
    go_wp2_with fail
    go_meet
    exact ⟨by rw [FB.out]; simp [h2], Y1.out, Y2.out, B1.out, zw.out⟩
   have h2b : (ro != 2) = false := by simpa using h2
   have H2 := hid9 h2
   clear h2
   by_cases h3 : ti = id
   ·have h3b : (ti == id) = true := by simpa using h3
    have H3 := hid9 h3
    clear h3
    go_wp2_with fail
    go_meet
    exact ⟨by rw [FB.out]; simp [H3.out], Y1.out, Y2.out, B1.out, zw.out⟩
   have h3b : (ti == id) = false := by simpa using h3
   go_wp2_with fail
   refine (l1In_any _ _ _ _).mono ?_
   rintro e w3 ⟨rfl, hw3⟩
   subst hw3
   have E3 : Hid (inB ti 0 (size - 1) = bf) := by
    show _ = _
    rw [FB.out, h1]
    simp [H2.out, h3]
   rw [E3.out]
   clear h3
   cases h3 : bf
   ·go_wp2_with fail
    go_meet
    exact ⟨by rw [h3]; rfl, Y1.out, Y2.out, B1.out, zw.out⟩
   ·go_wp2_with fail
    go_meet
    exact ⟨by rw [h3]; rfl, Y1.out, Y2.out, B1.out, zw.out⟩
 case rest =>
  clear Y1 Y2 B1 zw OK FB SZ HI
  obtain ⟨hx8, Y1, Y2, B1, zc⟩ := hcut
  subst hx8
  cases hbf : bf
  ·obtain ⟨e1, e2⟩ := NOF.out hbf
   clear NOF FP RN CC Y1 SNF PUF CT CE C7 C14
   go_upto_region 2 with fail
   have TH2 : Hid (wc.there (w.heap.size + 1) 0 (List.toArray ([.int .i64 0, .int .i64 0, .int .i64 0, .int .i64 0, .int .i64 0, .int .i64 0, .int .i64 0, .bool false, .slice none 0 0, .bool false, .slice none 0 0, .slice none 0 0, .slice none 0 0, .slice none 0 0, .slice none 0 0] : List Value)).size) := there_of Y2.out rfl
   have GC : Hid (Chg (fun g => g = (w.heap.size + 1)) wc (wc.setCells (w.heap.size + 1) 0 ([.int .i64 0, .int .i64 0, .int .i64 0, .int .i64 0, .int .i64 0, .int .i64 0, .int .i64 0, .bool false, .slice none 0 0, .bool false, .slice none 0 0, .slice none 0 0, .slice none 0 0, .slice none 0 0, .slice none 0 0] : List Value))) := Chg.setCells (F := fun g => g = (w.heap.size + 1)) (g := (w.heap.size + 1)) (fun _ => rfl) _ 0 wc (Chg.refl _ _)
   have XF : Hid ((wc.setCells (w.heap.size + 1) 0 ([.int .i64 0, .int .i64 0, .int .i64 0, .int .i64 0, .int .i64 0, .int .i64 0, .int .i64 0, .bool false, .slice none 0 0, .bool false, .slice none 0 0, .slice none 0 0, .slice none 0 0, .slice none 0 0, .slice none 0 0] : List Value)).heap[(w.heap.size + 1)]? = some (.cells (List.toArray ([.int .i64 0, .int .i64 0, .int .i64 0, .int .i64 0, .int .i64 0, .int .i64 0, .int .i64 0, .bool false, .slice none 0 0, .bool false, .slice none 0 0, .slice none 0 0, .slice none 0 0, .slice none 0 0, .slice none 0 0] : List Value)) 57 (0, 0))) := setAll_at Y2.out _ rfl
   have HM2 : Hid ((Tryz.prog.info? 57).map (·.size) = some (List.toArray ([.int .i64 0, .int .i64 0, .int .i64 0, .int .i64 0, .int .i64 0, .int .i64 0, .int .i64 0, .bool false, .slice none 0 0, .bool false, .slice none 0 0, .slice none 0 0, .slice none 0 0, .slice none 0 0, .slice none 0 0] : List Value)).size) := (show (Tryz.prog.info? 57).map (·.size) = some 15 by kernel_rfl)
   have FIN : Hid (∃ K : RpcV, Value.agg (List.toArray ([.int .i64 0, .int .i64 0, .int .i64 0, .int .i64 0, .int .i64 0, .int .i64 0, .int .i64 0, .bool false, .slice none 0 0, .bool false, .slice none 0 0, .slice none 0 0, .slice none 0 0, .slice none 0 0, .slice none 0 0] : List Value)) = K.val ∧ FV.like K ∧ RpcAt n (wc.setCells (w.heap.size + 1) 0 ([.int .i64 0, .int .i64 0, .int .i64 0, .int .i64 0, .int .i64 0, .int .i64 0, .int .i64 0, .bool false, .slice none 0 0, .bool false, .slice none 0 0, .slice none 0 0, .slice none 0 0, .slice none 0 0, .slice none 0 0] : List Value)) K FD ∧ Below w.heap.size w (wc.setCells (w.heap.size + 1) 0 ([.int .i64 0, .int .i64 0, .int .i64 0, .int .i64 0, .int .i64 0, .int .i64 0, .int .i64 0, .bool false, .slice none 0 0, .bool false, .slice none 0 0, .slice none 0 0, .slice none 0 0, .slice none 0 0, .slice none 0 0] : List Value))) := by
    refine ⟨rpNo, rfl, by rw [e1]; exact RpcV.like.refl _, ?_, B1.out.trans (GC.out.below (fun g _ hg => by omega) B1.out.size)⟩
    rw [e2]
    have hn' := HN'.out
    subst hn'
    exact ⟨(OwnE.nil _ 0 113 6).rowF.row, MacD.at (zM_own _ _ (fun _ => True))⟩
   have AL : Hid ((List.toArray ([.int .i64 0, .int .i64 0, .int .i64 0, .int .i64 0, .int .i64 0, .int .i64 0, .int .i64 0, .bool false, .slice none 0 0, .bool false, .slice none 0 0, .slice none 0 0, .slice none 0 0, .slice none 0 0, .slice none 0 0] : List Value)).all (·.oneCell') = true) := by show _ = _; simp [Value.oneCell']
   clear GC B1 Y2 e1 e2
   go_wp2_with (refine wpList_store_mid rfl 57 _ _ rfl (w.heap.size + 1) 0 (List.toArray ([.int .i64 0, .int .i64 0, .int .i64 0, .int .i64 0, .int .i64 0, .int .i64 0, .int .i64 0, .bool false, .slice none 0 0, .bool false, .slice none 0 0, .slice none 0 0, .slice none 0 0, .slice none 0 0, .slice none 0 0] : List Value)) rfl rfl TH2.out HM2.out AL.out ?_)
   generalize wc.setCells (w.heap.size + 1) 0 ([.int .i64 0, .int .i64 0, .int .i64 0, .int .i64 0, .int .i64 0, .int .i64 0, .int .i64 0, .bool false, .slice none 0 0, .bool false, .slice none 0 0, .slice none 0 0, .slice none 0 0, .slice none 0 0, .slice none 0 0] : List Value) = WF at *
   exact ⟨rfl, _, results_cell_two Tryz.results12 _ WF (w.heap.size + 1) 57 _ (0, 0) _ rfl XF.out Tryz.underlying57 rfl HM2.out, (by obtain ⟨K, e, r⟩ := FIN.out; exact ⟨K, by rw [← e]; first | rfl | (rw [hbf]; rfl), r⟩)⟩
  ·obtain ⟨tn, hti, ht, hl64, hx64, hn64⟩ := FP.out hbf
   have hws : IntKind.i64.wrap (fx - 1) = fx - 1 := by rw [IntKind.wrap_i64]; unfold I64 at hn64; omega
   obtain ⟨k14, k12⟩ := C14.out _ Y1.out
   obtain ⟨k0, k1, k3, k4, k16, -, -⟩ := CC.out _ Y1.out
   obtain ⟨rn, han⟩ := RN.out tn _ hti ht B1.out
   subst han
   have ht2 : ((tn : Nat) : Int) < ((nN : Nat) : Int) := by omega
   have CT1 := hid9 (CT.out hbf)
   have CE1 := hid9 (CE.out hbf)
   clear NOF FP RN CT CE C14 hl64 hx64 hn64
   by_cases hx : fx ≤ lb
   ·obtain ⟨e1, e2⟩ := SNF.out hbf hx
    have FDE := hid9 e2
    have LK : Hid (∀ ev m, FV.like ⟨5, id, tn, nte, lb, lt, 0, false, ev, m⟩) := fun ev m => by rw [e1, hti]; exact ⟨rfl, rfl, rfl, rfl, rfl, rfl, rfl, rfl⟩
    clear e1 e2 SNF PUF CT1 CE1 RPU
    have TI := hid9 hti
    subst hti
    go_upto_region 5 with fail
    clear k0 k1 k3 k4 k16 k12 k14 rn hws ht2
    have KE : Hid (∀ u, Below wc.heap.size wc u → (fun u : World => u.cell? ⟨w.heap.size, 0, none⟩ = some (.int .i64 id) ∧ u.cell? ⟨w.heap.size, 1, none⟩ = some (.int .i64 nte) ∧ u.cell? ⟨w.heap.size, 3, none⟩ = some (.int .i64 lb) ∧ u.cell? ⟨w.heap.size, 4, none⟩ = some (.int .i64 lt) ∧ u.cell? ⟨w.heap.size, 16, none⟩ = some (.int .i64 ncm) ∧ u.rangeAt w.heap.size 3 ([.int .i64 lb, .int .i64 lt, lv] : List Value) ∧ u.rangeAt w.heap.size 6 ([.bool sl, sp, sc, sk, sb, sv] : List Value)) u) := fun u hu => CC.out u (step_at Y1.out hu)
    have RLL : Hid (Below wc.heap.size wc wc.drew) := (Below.refl _ _).drew
    refine wp_region_held_drew (S := (fun u : World => u.cell? ⟨w.heap.size, 0, none⟩ = some (.int .i64 id) ∧ u.cell? ⟨w.heap.size, 1, none⟩ = some (.int .i64 nte) ∧ u.cell? ⟨w.heap.size, 3, none⟩ = some (.int .i64 lb) ∧ u.cell? ⟨w.heap.size, 4, none⟩ = some (.int .i64 lt) ∧ u.cell? ⟨w.heap.size, 16, none⟩ = some (.int .i64 ncm) ∧ u.rangeAt w.heap.size 3 ([.int .i64 lb, .int .i64 lt, lv] : List Value) ∧ u.rangeAt w.heap.size 6 ([.bool sl, sp, sc, sk, sb, sv] : List Value))) (by kernel_rfl) (KE.out _ RLL.out) (fun hH => ?_)
    refine wpAnyH_take (i := 0) (oi := ⟨_, _, _, _, _, _⟩) (v := ?_) rfl (by kernel_rfl) (by kernel_rfl) (by kernel_rfl) (fun _ _ _ h => h) (Or.inl ⟨by rfl, ?_⟩) (by assumption) ?_
    rotate_left
    ·((intro w' hSw; obtain ⟨s0, s1, s3, s4, s16, -, -⟩ := hSw; go_simp); (try with_reducible rfl))
    try simp only [Act.put, List.setIfInBounds_toArray, List.set_cons_zero, List.set_cons_succ]
    refine wpAnyH_take (i := 1) (oi := ⟨_, _, _, _, _, _⟩) (v := ?_) rfl (by kernel_rfl) (by kernel_rfl) (by kernel_rfl) (fun _ _ _ h => h) (Or.inl ⟨by rfl, ?_⟩) (by assumption) ?_
    rotate_left
    ·((intro w' hSw; obtain ⟨s0, s1, s3, s4, s16, -, -⟩ := hSw; go_simp); (try with_reducible rfl))
    try simp only [Act.put, List.setIfInBounds_toArray, List.set_cons_zero, List.set_cons_succ]
    refine wpAnyH_take (i := 2) (oi := ⟨_, _, _, _, _, _⟩) (v := ?_) rfl (by kernel_rfl) (by kernel_rfl) (by kernel_rfl) (fun _ _ _ h => h) (Or.inl ⟨by rfl, ?_⟩) (by assumption) ?_
    rotate_left
    ·((intro w' hSw; obtain ⟨s0, s1, s3, s4, s16, -, -⟩ := hSw; go_simp); (try with_reducible rfl))
    try simp only [Act.put, List.setIfInBounds_toArray, List.set_cons_zero, List.set_cons_succ]
    refine wpAnyH_take (i := 3) (oi := ⟨_, _, _, _, _, _⟩) (v := ?_) rfl (by kernel_rfl) (by kernel_rfl) (by kernel_rfl) (fun _ _ _ h => h) (Or.inl ⟨by rfl, ?_⟩) (by assumption) ?_
    rotate_left
    ·((intro w' hSw; obtain ⟨s0, s1, s3, s4, s16, -, -⟩ := hSw; go_simp); (try with_reducible rfl))
    try simp only [Act.put, List.setIfInBounds_toArray, List.set_cons_zero, List.set_cons_succ]
    refine wpAnyH_take (i := 4) (oi := ⟨_, _, _, _, _, _⟩) (v := ?_) rfl (by kernel_rfl) (by kernel_rfl) (by kernel_rfl) (fun _ _ _ h => h) (Or.inl ⟨by rfl, ?_⟩) (by assumption) ?_
    rotate_left
    ·((intro w' hSw; obtain ⟨s0, s1, s3, s4, s16, -, -⟩ := hSw; go_simp); (try with_reducible rfl))
    try simp only [Act.put, List.setIfInBounds_toArray, List.set_cons_zero, List.set_cons_succ]
    refine wpAnyH_take (i := 5) (oi := ⟨_, _, _, _, _, _⟩) (v := ?_) rfl (by kernel_rfl) (by kernel_rfl) (by kernel_rfl) (fun _ _ _ h => h) (Or.inl ⟨by rfl, ?_⟩) (by assumption) ?_
    rotate_left
    ·((intro w' hSw; obtain ⟨s0, s1, s3, s4, s16, -, -⟩ := hSw; go_simp); (try with_reducible rfl))
    try simp only [Act.put, List.setIfInBounds_toArray, List.set_cons_zero, List.set_cons_succ]
    refine wpAnyH_take (i := 6) (oi := ⟨_, _, _, _, _, _⟩) (v := ?_) rfl (by kernel_rfl) (by kernel_rfl) (by kernel_rfl) (fun _ _ _ h => h) (Or.inl ⟨by rfl, ?_⟩) (by assumption) ?_
    rotate_left
    ·((intro w' hSw; obtain ⟨s0, s1, s3, s4, s16, -, -⟩ := hSw; go_simp); (try with_reducible rfl))
    try simp only [Act.put, List.setIfInBounds_toArray, List.set_cons_zero, List.set_cons_succ]
    refine wpAnyH_take (i := 7) (oi := ⟨_, _, _, _, _, _⟩) (v := ?_) rfl (by kernel_rfl) (by kernel_rfl) (by kernel_rfl) (fun _ _ _ h => h) (Or.inl ⟨by rfl, ?_⟩) (by assumption) ?_
    rotate_left
    ·((intro w' hSw; obtain ⟨s0, s1, s3, s4, s16, -, -⟩ := hSw; go_simp); (try with_reducible rfl))
    try simp only [Act.put, List.setIfInBounds_toArray, List.set_cons_zero, List.set_cons_succ]
    refine wpAnyH_take (i := 8) (oi := ⟨_, _, _, _, _, _⟩) (v := ?_) rfl (by kernel_rfl) (by kernel_rfl) (by kernel_rfl) (fun _ _ _ h => h) (Or.inl ⟨by rfl, ?_⟩) (by assumption) ?_
    rotate_left
    ·((intro w' hSw; obtain ⟨s0, s1, s3, s4, s16, -, -⟩ := hSw; go_simp); (try with_reducible rfl))
    try simp only [Act.put, List.setIfInBounds_toArray, List.set_cons_zero, List.set_cons_succ]
    refine wpAnyH_take (i := 9) (oi := ⟨_, _, _, _, _, _⟩) (v := ?_) rfl (by kernel_rfl) (by kernel_rfl) (by kernel_rfl) (fun _ _ _ h => h) (Or.inl ⟨by rfl, ?_⟩) (by assumption) ?_
    rotate_left
    ·((intro w' hSw; obtain ⟨s0, s1, s3, s4, s16, -, -⟩ := hSw; go_simp); (try with_reducible rfl))
    try simp only [Act.put, List.setIfInBounds_toArray, List.set_cons_zero, List.set_cons_succ]
    refine wpAnyH_take (i := 10) (oi := ⟨_, _, _, _, _, _⟩) (v := ?_) rfl (by kernel_rfl) (by kernel_rfl) (by kernel_rfl) (fun _ _ _ h => h) (Or.inl ⟨by rfl, ?_⟩) (by assumption) ?_
    rotate_left
    ·((intro w' hSw; obtain ⟨s0, s1, s3, s4, s16, -, -⟩ := hSw; go_simp); (try with_reducible rfl))
    try simp only [Act.put, List.setIfInBounds_toArray, List.set_cons_zero, List.set_cons_succ]
    refine wpAnyH_take (i := 11) (oi := ⟨_, _, _, _, _, _⟩) (v := ?_) rfl (by kernel_rfl) (by kernel_rfl) (by kernel_rfl) (fun _ _ _ h => h) (Or.inl ⟨by rfl, ?_⟩) (by assumption) ?_
    rotate_left
    ·((intro w' hSw; obtain ⟨s0, s1, s3, s4, s16, -, -⟩ := hSw; go_simp); (try with_reducible rfl))
    try simp only [Act.put, List.setIfInBounds_toArray, List.set_cons_zero, List.set_cons_succ]
    refine wpAnyH_take (i := 12) (oi := ⟨_, _, _, _, _, _⟩) (v := .agg (List.toArray ([.bool sl, sp, sc, sk, sb, sv] : List Value))) rfl (by kernel_rfl) (by kernel_rfl) (by kernel_rfl) (fun _ _ _ h => h) (yieldsIf_load_mid (by kernel_rfl) 48 _ rfl w.heap.size 6 rfl ([.bool sl, sp, sc, sk, sb, sv] : List Value) _ (fun _ hu => hu.2.2.2.2.2.2) Tryz.underlying48 rfl (by kernel_rfl)) (by assumption) ?_
    try simp only [Act.put, List.setIfInBounds_toArray, List.set_cons_zero, List.set_cons_succ]
    refine wpAnyH_ready (rs := [13]) (by kernel_rfl) (by simp) ?_
    refine AllReadyH.cons (o := ⟨_, _, _, _, _, _⟩) rfl (fun K hK => ?_) AllReadyH.nil
    refine (if_pos (show Region.wanted _ _ = true by kernel_rfl)).mpr ?_
    refine call_by 24 [.tmp 54] #[48] rfl run_l7C _ rfl (C7.out _ (Below.and B1.out RLL.out)) ?_
    rintro e u2 ⟨z, rfl, oz, b3⟩
    replace RLL := hid9 (Below.and RLL.out b3)
    obtain ⟨l2, x1, x2, x3, x4, x5, hz⟩ := oz.sl
    subst hz
    have OZ := hid9 oz
    clear oz b3
    have RLL0 : Hid (wc.heap.size ≤ wc.drew.heap.size) := (Below.refl wc.heap.size wc).drew.size
    refine ⟨_, rfl, ?_⟩
    refine hK.out _ _ (KE.out _ RLL.out) (fun hH2 => ?_)
    clear hK K hH
    have hH := hH2
    clear hH2
    try simp only [Act.put, List.setIfInBounds_toArray, List.set_cons_zero, List.set_cons_succ]
    refine wpAnyH_take (i := 14) (oi := ⟨_, _, _, _, _, _⟩) (v := ?_) rfl (by kernel_rfl) (by kernel_rfl) (by kernel_rfl) (fun _ _ _ h => h) (Or.inl ⟨by rfl, ?_⟩) (by assumption) ?_
    rotate_left
    ·((intro w' hSw; obtain ⟨s0, s1, s3, s4, s16, -, -⟩ := hSw; go_simp); (try with_reducible rfl))
    try simp only [Act.put, List.setIfInBounds_toArray, List.set_cons_zero, List.set_cons_succ]
    replace Y2 := hid9 (step_at Y2.out RLL.out)
    replace B1 := hid9 (Below.and B1.out RLL.out)
    have TH2 : Hid (u2.there (w.heap.size + 1) 0 (List.toArray ([.int .i64 5, .int .i64 id, .int .i64 (tn : Int), .int .i64 nte, .int .i64 lb, .int .i64 lt, .int .i64 0, .bool false, .slice none 0 0, .bool l2, .slice x1.1 x1.2.1 x1.2.2, .slice x2.1 x2.2.1 x2.2.2, .slice x3.1 x3.2.1 x3.2.2, .slice x4.1 x4.2.1 x4.2.2, .slice x5.1 x5.2.1 x5.2.2] : List Value)).size) := there_of Y2.out rfl
    have GC : Hid (Chg (fun g => g = (w.heap.size + 1)) u2 (u2.setCells (w.heap.size + 1) 0 ([.int .i64 5, .int .i64 id, .int .i64 (tn : Int), .int .i64 nte, .int .i64 lb, .int .i64 lt, .int .i64 0, .bool false, .slice none 0 0, .bool l2, .slice x1.1 x1.2.1 x1.2.2, .slice x2.1 x2.2.1 x2.2.2, .slice x3.1 x3.2.1 x3.2.2, .slice x4.1 x4.2.1 x4.2.2, .slice x5.1 x5.2.1 x5.2.2] : List Value))) := Chg.setCells (F := fun g => g = (w.heap.size + 1)) (g := (w.heap.size + 1)) (fun _ => rfl) _ 0 u2 (Chg.refl _ _)
    have XF : Hid ((u2.setCells (w.heap.size + 1) 0 ([.int .i64 5, .int .i64 id, .int .i64 (tn : Int), .int .i64 nte, .int .i64 lb, .int .i64 lt, .int .i64 0, .bool false, .slice none 0 0, .bool l2, .slice x1.1 x1.2.1 x1.2.2, .slice x2.1 x2.2.1 x2.2.2, .slice x3.1 x3.2.1 x3.2.2, .slice x4.1 x4.2.1 x4.2.2, .slice x5.1 x5.2.1 x5.2.2] : List Value)).heap[(w.heap.size + 1)]? = some (.cells (List.toArray ([.int .i64 5, .int .i64 id, .int .i64 (tn : Int), .int .i64 nte, .int .i64 lb, .int .i64 lt, .int .i64 0, .bool false, .slice none 0 0, .bool l2, .slice x1.1 x1.2.1 x1.2.2, .slice x2.1 x2.2.1 x2.2.2, .slice x3.1 x3.2.1 x3.2.2, .slice x4.1 x4.2.1 x4.2.2, .slice x5.1 x5.2.1 x5.2.2] : List Value)) 57 (0, 0))) := setAll_at Y2.out _ rfl
    have HM2 : Hid ((Tryz.prog.info? 57).map (·.size) = some (List.toArray ([.int .i64 5, .int .i64 id, .int .i64 (tn : Int), .int .i64 nte, .int .i64 lb, .int .i64 lt, .int .i64 0, .bool false, .slice none 0 0, .bool l2, .slice x1.1 x1.2.1 x1.2.2, .slice x2.1 x2.2.1 x2.2.2, .slice x3.1 x3.2.1 x3.2.2, .slice x4.1 x4.2.1 x4.2.2, .slice x5.1 x5.2.1 x5.2.2] : List Value)).size) := (show (Tryz.prog.info? 57).map (·.size) = some 15 by kernel_rfl)
    have AL : Hid ((List.toArray ([.int .i64 5, .int .i64 id, .int .i64 (tn : Int), .int .i64 nte, .int .i64 lb, .int .i64 lt, .int .i64 0, .bool false, .slice none 0 0, .bool l2, .slice x1.1 x1.2.1 x1.2.2, .slice x2.1 x2.2.1 x2.2.2, .slice x3.1 x3.2.1 x3.2.2, .slice x4.1 x4.2.1 x4.2.2, .slice x5.1 x5.2.1 x5.2.2] : List Value)).all (·.oneCell') = true) := by show _ = _; simp [Value.oneCell']
    have SS : Hid ((fun u : World => u.cell? ⟨w.heap.size, 0, none⟩ = some (.int .i64 id) ∧ u.cell? ⟨w.heap.size, 1, none⟩ = some (.int .i64 nte) ∧ u.cell? ⟨w.heap.size, 3, none⟩ = some (.int .i64 lb) ∧ u.cell? ⟨w.heap.size, 4, none⟩ = some (.int .i64 lt) ∧ u.cell? ⟨w.heap.size, 16, none⟩ = some (.int .i64 ncm) ∧ u.rangeAt w.heap.size 3 ([.int .i64 lb, .int .i64 lt, lv] : List Value) ∧ u.rangeAt w.heap.size 6 ([.bool sl, sp, sc, sk, sb, sv] : List Value)) (u2.setCells (w.heap.size + 1) 0 ([.int .i64 5, .int .i64 id, .int .i64 (tn : Int), .int .i64 nte, .int .i64 lb, .int .i64 lt, .int .i64 0, .bool false, .slice none 0 0, .bool l2, .slice x1.1 x1.2.1 x1.2.2, .slice x2.1 x2.2.1 x2.2.2, .slice x3.1 x3.2.1 x3.2.2, .slice x4.1 x4.2.1 x4.2.2, .slice x5.1 x5.2.1 x5.2.2] : List Value))) := CC.out _ (row_chg (step_at Y1.out RLL.out) GC.out (fun e => by omega))
    have FIN : Hid (∃ K : RpcV, Value.agg (List.toArray ([.int .i64 5, .int .i64 id, .int .i64 (tn : Int), .int .i64 nte, .int .i64 lb, .int .i64 lt, .int .i64 0, .bool false, .slice none 0 0, .bool l2, .slice x1.1 x1.2.1 x1.2.2, .slice x2.1 x2.2.1 x2.2.2, .slice x3.1 x3.2.1 x3.2.2, .slice x4.1 x4.2.1 x4.2.2, .slice x5.1 x5.2.1 x5.2.2] : List Value)) = K.val ∧ FV.like K ∧ RpcAt n (u2.setCells (w.heap.size + 1) 0 ([.int .i64 5, .int .i64 id, .int .i64 (tn : Int), .int .i64 nte, .int .i64 lb, .int .i64 lt, .int .i64 0, .bool false, .slice none 0 0, .bool l2, .slice x1.1 x1.2.1 x1.2.2, .slice x2.1 x2.2.1 x2.2.2, .slice x3.1 x3.2.1 x3.2.2, .slice x4.1 x4.2.1 x4.2.2, .slice x5.1 x5.2.1 x5.2.2] : List Value)) K FD ∧ Below w.heap.size w (u2.setCells (w.heap.size + 1) 0 ([.int .i64 5, .int .i64 id, .int .i64 (tn : Int), .int .i64 nte, .int .i64 lb, .int .i64 lt, .int .i64 0, .bool false, .slice none 0 0, .bool l2, .slice x1.1 x1.2.1 x1.2.2, .slice x2.1 x2.2.1 x2.2.2, .slice x3.1 x3.2.1 x3.2.2, .slice x4.1 x4.2.1 x4.2.2, .slice x5.1 x5.2.1 x5.2.2] : List Value))) := ⟨⟨5, id, tn, nte, lb, lt, 0, false, .slice none 0 0, ⟨⟨l2, .slice x1.1 x1.2.1 x1.2.2, .slice x2.1 x2.2.1 x2.2.2, .slice x3.1 x3.2.1 x3.2.2, .slice x4.1 x4.2.1 x4.2.2⟩, .slice x5.1 x5.2.1 x5.2.2⟩⟩, rfl, LK.out _ _, (by rw [FDE.out]; exact ⟨(OwnE.nil _ 0 113 6).rowF.row, MacD.at (OZ.out.chg GC.out (fun g hg e => by have := zc.out; have := RLL0.out; omega))⟩), B1.out.trans (GC.out.below (fun g _ hg => by omega) B1.out.size)⟩
    refine wpAnyH_ready (rs := [15]) (by kernel_rfl) (by simp) ?_
    refine AllReadyH.cons (o := ⟨_, _, _, _, _, _⟩) rfl (fun K hK => ?_) AllReadyH.nil
    refine (if_pos (show Region.wanted _ _ = true by kernel_rfl)).mpr ?_
    refine wp_store_mid 57 _ _ rfl (w.heap.size + 1) 0 (List.toArray ([.int .i64 5, .int .i64 id, .int .i64 (tn : Int), .int .i64 nte, .int .i64 lb, .int .i64 lt, .int .i64 0, .bool false, .slice none 0 0, .bool l2, .slice x1.1 x1.2.1 x1.2.2, .slice x2.1 x2.2.1 x2.2.2, .slice x3.1 x3.2.1 x3.2.2, .slice x4.1 x4.2.1 x4.2.2, .slice x5.1 x5.2.1 x5.2.2] : List Value)) rfl rfl TH2.out HM2.out AL.out ?_
    refine hK.out _ _ SS.out (fun hH2 => ?_)
    clear hK K hH SS
    have hH := hH2
    clear hH2
    try simp only [Act.put]
    refine wpAnyH_take (i := 16) (oi := ⟨_, _, _, _, _, _⟩) (v := ?_) rfl (by kernel_rfl) (by kernel_rfl) (by kernel_rfl) (fun _ _ _ h => h) (Or.inl ⟨by rfl, ?_⟩) (by assumption) ?_
    rotate_left
    ·((intro w' hSw; obtain ⟨s0, s1, s3, s4, s16, -, -⟩ := hSw; go_simp); (try with_reducible rfl))
    try simp only [Act.put, List.setIfInBounds_toArray, List.set_cons_zero, List.set_cons_succ]
    refine wpAnyH_done (by kernel_rfl) ?_ _
    clear hH GC B1 Y2 Y1 KE RLL AL TH2 LK CC
    generalize u2.setCells (w.heap.size + 1) 0 ([.int .i64 5, .int .i64 id, .int .i64 (tn : Int), .int .i64 nte, .int .i64 lb, .int .i64 lt, .int .i64 0, .bool false, .slice none 0 0, .bool l2, .slice x1.1 x1.2.1 x1.2.2, .slice x2.1 x2.2.1 x2.2.2, .slice x3.1 x3.2.1 x3.2.2, .slice x4.1 x4.2.1 x4.2.2, .slice x5.1 x5.2.1 x5.2.2] : List Value) = WF at *
    go_wp2
    exact ⟨rfl, _, results_cell_two Tryz.results12 _ WF (w.heap.size + 1) 57 _ (0, 0) _ rfl XF.out Tryz.underlying57 rfl HM2.out, (by obtain ⟨K, e, r⟩ := FIN.out; exact ⟨K, by rw [← e]; first | rfl | (rw [hbf]; rfl), r⟩)⟩
   ·obtain ⟨e1, e2⟩ := PUF.out hbf hx
    have FDE := hid9 e2
    have LK : Hid (∀ ev m, FV.like ⟨3, id, tn, nte, fx - 1, termB lb lt D.l (fx - 1), ncm, false, ev, m⟩) := fun ev m => by rw [e1, RPU.out, hti]; exact ⟨rfl, rfl, rfl, rfl, rfl, rfl, rfl, rfl⟩
    clear e1 e2 SNF PUF C7 RPU
    have TI := hid9 hti
    subst hti
    generalize termB lb lt D.l (fx - 1) = tb at *
    have CT := CT1
    have CE := CE1
    clear CT1 CE1
    go_upto_region 6 with fail
    clear k0 k1 k3 k4 k16 k12 k14 rn ht2
    have KE : Hid (∀ u, Below wc.heap.size wc u → (fun u : World => u.cell? ⟨w.heap.size, 0, none⟩ = some (.int .i64 id) ∧ u.cell? ⟨w.heap.size, 1, none⟩ = some (.int .i64 nte) ∧ u.cell? ⟨w.heap.size, 3, none⟩ = some (.int .i64 lb) ∧ u.cell? ⟨w.heap.size, 4, none⟩ = some (.int .i64 lt) ∧ u.cell? ⟨w.heap.size, 16, none⟩ = some (.int .i64 ncm) ∧ u.rangeAt w.heap.size 3 ([.int .i64 lb, .int .i64 lt, lv] : List Value) ∧ u.rangeAt w.heap.size 6 ([.bool sl, sp, sc, sk, sb, sv] : List Value)) u) := fun u hu => CC.out u (step_at Y1.out hu)
    have RLL : Hid (Below wc.heap.size wc wc.drew) := (Below.refl _ _).drew
    refine wp_region_held_drew (S := (fun u : World => u.cell? ⟨w.heap.size, 0, none⟩ = some (.int .i64 id) ∧ u.cell? ⟨w.heap.size, 1, none⟩ = some (.int .i64 nte) ∧ u.cell? ⟨w.heap.size, 3, none⟩ = some (.int .i64 lb) ∧ u.cell? ⟨w.heap.size, 4, none⟩ = some (.int .i64 lt) ∧ u.cell? ⟨w.heap.size, 16, none⟩ = some (.int .i64 ncm) ∧ u.rangeAt w.heap.size 3 ([.int .i64 lb, .int .i64 lt, lv] : List Value) ∧ u.rangeAt w.heap.size 6 ([.bool sl, sp, sc, sk, sb, sv] : List Value))) (by kernel_rfl) (KE.out _ RLL.out) (fun hH => ?_)
    refine wpAnyH_take (i := 0) (oi := ⟨_, _, _, _, _, _⟩) (v := ?_) rfl (by kernel_rfl) (by kernel_rfl) (by kernel_rfl) (fun _ _ _ h => h) (Or.inl ⟨by rfl, ?_⟩) (by assumption) ?_
    rotate_left
    ·((intro w' hSw; obtain ⟨s0, s1, s3, s4, s16, -, -⟩ := hSw; go_simp); (try with_reducible rfl))
    try simp only [Act.put, List.setIfInBounds_toArray, List.set_cons_zero, List.set_cons_succ]
    refine wpAnyH_take (i := 1) (oi := ⟨_, _, _, _, _, _⟩) (v := ?_) rfl (by kernel_rfl) (by kernel_rfl) (by kernel_rfl) (fun _ _ _ h => h) (Or.inl ⟨by rfl, ?_⟩) (by assumption) ?_
    rotate_left
    ·((intro w' hSw; obtain ⟨s0, s1, s3, s4, s16, -, -⟩ := hSw; go_simp); (try with_reducible rfl))
    try simp only [Act.put, List.setIfInBounds_toArray, List.set_cons_zero, List.set_cons_succ]
    refine wpAnyH_take (i := 2) (oi := ⟨_, _, _, _, _, _⟩) (v := ?_) rfl (by kernel_rfl) (by kernel_rfl) (by kernel_rfl) (fun _ _ _ h => h) (Or.inl ⟨by rfl, ?_⟩) (by assumption) ?_
    rotate_left
    ·((intro w' hSw; obtain ⟨s0, s1, s3, s4, s16, -, -⟩ := hSw; go_simp); (try with_reducible rfl))
    try simp only [Act.put, List.setIfInBounds_toArray, List.set_cons_zero, List.set_cons_succ]
    refine wpAnyH_take (i := 3) (oi := ⟨_, _, _, _, _, _⟩) (v := ?_) rfl (by kernel_rfl) (by kernel_rfl) (by kernel_rfl) (fun _ _ _ h => h) (Or.inl ⟨by rfl, ?_⟩) (by assumption) ?_
    rotate_left
    ·((intro w' hSw; obtain ⟨s0, s1, s3, s4, s16, -, -⟩ := hSw; go_simp); (try with_reducible rfl))
    try simp only [Act.put, List.setIfInBounds_toArray, List.set_cons_zero, List.set_cons_succ]
    refine wpAnyH_take (i := 4) (oi := ⟨_, _, _, _, _, _⟩) (v := ?_) rfl (by kernel_rfl) (by kernel_rfl) (by kernel_rfl) (fun _ _ _ h => h) (Or.inl ⟨by rfl, ?_⟩) (by assumption) ?_
    rotate_left
    ·((intro w' hSw; obtain ⟨s0, s1, s3, s4, s16, -, -⟩ := hSw; go_simp); (try with_reducible rfl))
    try simp only [Act.put, List.setIfInBounds_toArray, List.set_cons_zero, List.set_cons_succ]
    refine wpAnyH_take (i := 5) (oi := ⟨_, _, _, _, _, _⟩) (v := ?_) rfl (by kernel_rfl) (by kernel_rfl) (by kernel_rfl) (fun _ _ _ h => h) (Or.inl ⟨by rfl, ?_⟩) (by assumption) ?_
    rotate_left
    ·((intro w' hSw; obtain ⟨s0, s1, s3, s4, s16, -, -⟩ := hSw; go_simp); (try with_reducible rfl))
    try simp only [Act.put, List.setIfInBounds_toArray, List.set_cons_zero, List.set_cons_succ]
    refine wpAnyH_take (i := 6) (oi := ⟨_, _, _, _, _, _⟩) (v := ?_) rfl (by kernel_rfl) (by kernel_rfl) (by kernel_rfl) (fun _ _ _ h => h) (Or.inl ⟨by rfl, ?_⟩) (by assumption) ?_
    rotate_left
    ·((intro w' hSw; obtain ⟨s0, s1, s3, s4, s16, -, -⟩ := hSw; go_simp); (try with_reducible rfl))
    try simp only [Act.put, List.setIfInBounds_toArray, List.set_cons_zero, List.set_cons_succ]
    refine wpAnyH_take (i := 7) (oi := ⟨_, _, _, _, _, _⟩) (v := ?_) rfl (by kernel_rfl) (by kernel_rfl) (by kernel_rfl) (fun _ _ _ h => h) (Or.inl ⟨by rfl, ?_⟩) (by assumption) ?_
    rotate_left
    ·((intro w' hSw; obtain ⟨s0, s1, s3, s4, s16, -, -⟩ := hSw; go_simp); (try with_reducible rfl))
    try simp only [Act.put, List.setIfInBounds_toArray, List.set_cons_zero, List.set_cons_succ]
    refine wpAnyH_take (i := 8) (oi := ⟨_, _, _, _, _, _⟩) (v := .agg (List.toArray ([.int .i64 lb, .int .i64 lt, lv] : List Value))) rfl (by kernel_rfl) (by kernel_rfl) (by kernel_rfl) (fun _ _ _ h => h) (yieldsIf_load_mid (by kernel_rfl) 40 _ rfl w.heap.size 3 rfl ([.int .i64 lb, .int .i64 lt, lv] : List Value) _ (fun _ hu => hu.2.2.2.2.2.1) Tryz.underlying40 rfl (by kernel_rfl)) (by assumption) ?_
    try simp only [Act.put, List.setIfInBounds_toArray, List.set_cons_zero, List.set_cons_succ]
    refine wpAnyH_take (i := 9) (oi := ⟨_, _, _, _, _, _⟩) (v := ?_) rfl (by kernel_rfl) (by kernel_rfl) (by kernel_rfl) (fun _ _ _ h => h) (Or.inl ⟨by rfl, ?_⟩) (by assumption) ?_
    rotate_left
    ·((intro w' hSw; obtain ⟨s0, s1, s3, s4, s16, -, -⟩ := hSw; go_simp); (try with_reducible rfl))
    try simp only [Act.put, List.setIfInBounds_toArray, List.set_cons_zero, List.set_cons_succ]
    refine wpAnyH_take (i := 10) (oi := ⟨_, _, _, _, _, _⟩) (v := ?_) rfl (by kernel_rfl) (by kernel_rfl) (by kernel_rfl) (fun _ _ _ h => h) (Or.inl ⟨by rfl, ?_⟩) (by assumption) ?_
    rotate_left
    ·((intro w' hSw; obtain ⟨s0, s1, s3, s4, s16, -, -⟩ := hSw; go_simp); (try with_reducible rfl))
    try simp only [Act.put, List.setIfInBounds_toArray, List.set_cons_zero, List.set_cons_succ]
    refine wpAnyH_take (i := 12) (oi := ⟨_, _, _, _, _, _⟩) (v := ?_) rfl (by kernel_rfl) (by kernel_rfl) (by kernel_rfl) (fun _ _ _ h => h) (Or.inl ⟨by rfl, ?_⟩) (by assumption) ?_
    rotate_left
    ·((intro w' hSw; obtain ⟨s0, s1, s3, s4, s16, -, -⟩ := hSw; go_simp); (try with_reducible rfl))
    try simp only [Act.put, List.setIfInBounds_toArray, List.set_cons_zero, List.set_cons_succ]
    refine wpAnyH_take (i := 13) (oi := ⟨_, _, _, _, _, _⟩) (v := ?_) rfl (by kernel_rfl) (by kernel_rfl) (by kernel_rfl) (fun _ _ _ h => h) (Or.inl ⟨by rfl, ?_⟩) (by assumption) ?_
    rotate_left
    ·((intro w' hSw; obtain ⟨s0, s1, s3, s4, s16, -, -⟩ := hSw; go_simp); (try with_reducible rfl))
    try simp only [Act.put, List.setIfInBounds_toArray, List.set_cons_zero, List.set_cons_succ]
    refine wpAnyH_take (i := 14) (oi := ⟨_, _, _, _, _, _⟩) (v := ?_) rfl (by kernel_rfl) (by kernel_rfl) (by kernel_rfl) (fun _ _ _ h => h) (Or.inl ⟨by rfl, ?_⟩) (by assumption) ?_
    rotate_left
    ·((intro w' hSw; obtain ⟨s0, s1, s3, s4, s16, -, -⟩ := hSw; go_simp); (try with_reducible rfl))
    try simp only [Act.put, List.setIfInBounds_toArray, List.set_cons_zero, List.set_cons_succ]
    refine wpAnyH_take (i := 15) (oi := ⟨_, _, _, _, _, _⟩) (v := .agg (List.toArray ([.int .i64 lb, .int .i64 lt, lv] : List Value))) rfl (by kernel_rfl) (by kernel_rfl) (by kernel_rfl) (fun _ _ _ h => h) (yieldsIf_load_mid (by kernel_rfl) 40 _ rfl w.heap.size 3 rfl ([.int .i64 lb, .int .i64 lt, lv] : List Value) _ (fun _ hu => hu.2.2.2.2.2.1) Tryz.underlying40 rfl (by kernel_rfl)) (by assumption) ?_
    try simp only [Act.put, List.setIfInBounds_toArray, List.set_cons_zero, List.set_cons_succ]
    refine wpAnyH_take (i := 16) (oi := ⟨_, _, _, _, _, _⟩) (v := ?_) rfl (by kernel_rfl) (by kernel_rfl) (by kernel_rfl) (fun _ _ _ h => h) (Or.inl ⟨by rfl, ?_⟩) (by assumption) ?_
    rotate_left
    ·((intro w' hSw; obtain ⟨s0, s1, s3, s4, s16, -, -⟩ := hSw; go_simp); (try with_reducible rfl))
    try simp only [Act.put, List.setIfInBounds_toArray, List.set_cons_zero, List.set_cons_succ]
    refine wpAnyH_ready (rs := [11]) (by kernel_rfl) (by simp) ?_
    refine AllReadyH.cons (o := ⟨_, _, _, _, _, _⟩) rfl (fun K hK => ?_) AllReadyH.nil
    refine (if_pos (show Region.wanted _ _ = true by kernel_rfl)).mpr ?_
    refine call_by 45 [.tmp 65, .tmp 67] #[40, 3] rfl run_term _ rfl (CT.out _ (Below.and B1.out RLL.out)) ?_
    rintro e u1 ⟨rfl, b3⟩
    replace RLL := hid9 (Below.and RLL.out b3)
    clear b3
    have RL1 := RLL
    refine ⟨_, rfl, ?_⟩
    refine hK.out _ _ (KE.out _ RLL.out) (fun hH2 => ?_)
    clear hK K hH
    have hH := hH2
    clear hH2
    try simp only [Act.put, List.setIfInBounds_toArray, List.set_cons_zero, List.set_cons_succ]
    refine wpAnyH_ready (rs := [17]) (by kernel_rfl) (by simp) ?_
    refine AllReadyH.cons (o := ⟨_, _, _, _, _, _⟩) rfl (fun K hK => ?_) AllReadyH.nil
    refine (if_pos (show Region.wanted _ _ = true by kernel_rfl)).mpr ?_
    refine call_by 46 [.tmp 72, .tmp 73] #[40, 3] rfl run_ents _ rfl (CE.out _ (Below.and B1.out RLL.out)) ?_
    rintro e u2 ⟨z, rfl, oz, b3⟩
    replace RLL := hid9 (Below.and RLL.out b3)
    obtain ⟨x1, hz⟩ := oz.sl
    subst hz
    have OZ := hid9 oz
    have zu1 : Hid (wc.heap.size ≤ u1.heap.size) := RL1.out.size
    clear oz b3
    refine ⟨_, rfl, ?_⟩
    refine hK.out _ _ (KE.out _ RLL.out) (fun hH2 => ?_)
    clear hK K hH
    have hH := hH2
    clear hH2
    try simp only [Act.put, List.setIfInBounds_toArray, List.set_cons_zero, List.set_cons_succ]
    refine wpAnyH_take (i := 18) (oi := ⟨_, _, _, _, _, _⟩) (v := ?_) rfl (by kernel_rfl) (by kernel_rfl) (by kernel_rfl) (fun _ _ _ h => h) (Or.inl ⟨by rfl, ?_⟩) (by assumption) ?_
    rotate_left
    ·((intro w' hSw; obtain ⟨s0, s1, s3, s4, s16, -, -⟩ := hSw; go_simp); (try with_reducible rfl))
    try simp only [Act.put, List.setIfInBounds_toArray, List.set_cons_zero, List.set_cons_succ]
    replace Y2 := hid9 (step_at Y2.out RLL.out)
    replace B1 := hid9 (Below.and B1.out RLL.out)
    have TH2 : Hid (u2.there (w.heap.size + 1) 0 (List.toArray ([.int .i64 3, .int .i64 id, .int .i64 (tn : Int), .int .i64 nte, .int .i64 (fx - 1), .int .i64 tb, .int .i64 ncm, .bool false, .slice x1.1 x1.2.1 x1.2.2, .bool false, .slice none 0 0, .slice none 0 0, .slice none 0 0, .slice none 0 0, .slice none 0 0] : List Value)).size) := there_of Y2.out rfl
    have GC : Hid (Chg (fun g => g = (w.heap.size + 1)) u2 (u2.setCells (w.heap.size + 1) 0 ([.int .i64 3, .int .i64 id, .int .i64 (tn : Int), .int .i64 nte, .int .i64 (fx - 1), .int .i64 tb, .int .i64 ncm, .bool false, .slice x1.1 x1.2.1 x1.2.2, .bool false, .slice none 0 0, .slice none 0 0, .slice none 0 0, .slice none 0 0, .slice none 0 0] : List Value))) := Chg.setCells (F := fun g => g = (w.heap.size + 1)) (g := (w.heap.size + 1)) (fun _ => rfl) _ 0 u2 (Chg.refl _ _)
    have XF : Hid ((u2.setCells (w.heap.size + 1) 0 ([.int .i64 3, .int .i64 id, .int .i64 (tn : Int), .int .i64 nte, .int .i64 (fx - 1), .int .i64 tb, .int .i64 ncm, .bool false, .slice x1.1 x1.2.1 x1.2.2, .bool false, .slice none 0 0, .slice none 0 0, .slice none 0 0, .slice none 0 0, .slice none 0 0] : List Value)).heap[(w.heap.size + 1)]? = some (.cells (List.toArray ([.int .i64 3, .int .i64 id, .int .i64 (tn : Int), .int .i64 nte, .int .i64 (fx - 1), .int .i64 tb, .int .i64 ncm, .bool false, .slice x1.1 x1.2.1 x1.2.2, .bool false, .slice none 0 0, .slice none 0 0, .slice none 0 0, .slice none 0 0, .slice none 0 0] : List Value)) 57 (0, 0))) := setAll_at Y2.out _ rfl
    have HM2 : Hid ((Tryz.prog.info? 57).map (·.size) = some (List.toArray ([.int .i64 3, .int .i64 id, .int .i64 (tn : Int), .int .i64 nte, .int .i64 (fx - 1), .int .i64 tb, .int .i64 ncm, .bool false, .slice x1.1 x1.2.1 x1.2.2, .bool false, .slice none 0 0, .slice none 0 0, .slice none 0 0, .slice none 0 0, .slice none 0 0] : List Value)).size) := (show (Tryz.prog.info? 57).map (·.size) = some 15 by kernel_rfl)
    have AL : Hid ((List.toArray ([.int .i64 3, .int .i64 id, .int .i64 (tn : Int), .int .i64 nte, .int .i64 (fx - 1), .int .i64 tb, .int .i64 ncm, .bool false, .slice x1.1 x1.2.1 x1.2.2, .bool false, .slice none 0 0, .slice none 0 0, .slice none 0 0, .slice none 0 0, .slice none 0 0] : List Value)).all (·.oneCell') = true) := by show _ = _; simp [Value.oneCell']
    have SS : Hid ((fun u : World => u.cell? ⟨w.heap.size, 0, none⟩ = some (.int .i64 id) ∧ u.cell? ⟨w.heap.size, 1, none⟩ = some (.int .i64 nte) ∧ u.cell? ⟨w.heap.size, 3, none⟩ = some (.int .i64 lb) ∧ u.cell? ⟨w.heap.size, 4, none⟩ = some (.int .i64 lt) ∧ u.cell? ⟨w.heap.size, 16, none⟩ = some (.int .i64 ncm) ∧ u.rangeAt w.heap.size 3 ([.int .i64 lb, .int .i64 lt, lv] : List Value) ∧ u.rangeAt w.heap.size 6 ([.bool sl, sp, sc, sk, sb, sv] : List Value)) (u2.setCells (w.heap.size + 1) 0 ([.int .i64 3, .int .i64 id, .int .i64 (tn : Int), .int .i64 nte, .int .i64 (fx - 1), .int .i64 tb, .int .i64 ncm, .bool false, .slice x1.1 x1.2.1 x1.2.2, .bool false, .slice none 0 0, .slice none 0 0, .slice none 0 0, .slice none 0 0, .slice none 0 0] : List Value))) := CC.out _ (row_chg (step_at Y1.out RLL.out) GC.out (fun e => by omega))
    have FIN : Hid (∃ K : RpcV, Value.agg (List.toArray ([.int .i64 3, .int .i64 id, .int .i64 (tn : Int), .int .i64 nte, .int .i64 (fx - 1), .int .i64 tb, .int .i64 ncm, .bool false, .slice x1.1 x1.2.1 x1.2.2, .bool false, .slice none 0 0, .slice none 0 0, .slice none 0 0, .slice none 0 0, .slice none 0 0] : List Value)) = K.val ∧ FV.like K ∧ RpcAt n (u2.setCells (w.heap.size + 1) 0 ([.int .i64 3, .int .i64 id, .int .i64 (tn : Int), .int .i64 nte, .int .i64 (fx - 1), .int .i64 tb, .int .i64 ncm, .bool false, .slice x1.1 x1.2.1 x1.2.2, .bool false, .slice none 0 0, .slice none 0 0, .slice none 0 0, .slice none 0 0, .slice none 0 0] : List Value)) K FD ∧ Below w.heap.size w (u2.setCells (w.heap.size + 1) 0 ([.int .i64 3, .int .i64 id, .int .i64 (tn : Int), .int .i64 nte, .int .i64 (fx - 1), .int .i64 tb, .int .i64 ncm, .bool false, .slice x1.1 x1.2.1 x1.2.2, .bool false, .slice none 0 0, .slice none 0 0, .slice none 0 0, .slice none 0 0, .slice none 0 0] : List Value))) := ⟨⟨3, id, tn, nte, fx - 1, tb, ncm, false, .slice x1.1 x1.2.1 x1.2.2, zM⟩, rfl, LK.out _ _, (by rw [FDE.out]; exact ⟨(OZ.out.chg GC.out (fun g hg e => by have := (OZ.out.lt g hg).1; have := zc.out; have := zu1.out; omega)).rowF.row, by have := HN'.out; subst this; exact MacD.at (zM_own _ _ (fun _ => True))⟩), B1.out.trans (GC.out.below (fun g _ hg => by omega) B1.out.size)⟩
    refine wpAnyH_ready (rs := [19]) (by kernel_rfl) (by simp) ?_
    refine AllReadyH.cons (o := ⟨_, _, _, _, _, _⟩) rfl (fun K hK => ?_) AllReadyH.nil
    refine (if_pos (show Region.wanted _ _ = true by kernel_rfl)).mpr ?_
    refine wp_store_mid 57 _ _ rfl (w.heap.size + 1) 0 (List.toArray ([.int .i64 3, .int .i64 id, .int .i64 (tn : Int), .int .i64 nte, .int .i64 (fx - 1), .int .i64 tb, .int .i64 ncm, .bool false, .slice x1.1 x1.2.1 x1.2.2, .bool false, .slice none 0 0, .slice none 0 0, .slice none 0 0, .slice none 0 0, .slice none 0 0] : List Value)) rfl rfl TH2.out HM2.out AL.out ?_
    refine hK.out _ _ SS.out (fun hH2 => ?_)
    clear hK K hH SS
    have hH := hH2
    clear hH2
    try simp only [Act.put]
    refine wpAnyH_take (i := 20) (oi := ⟨_, _, _, _, _, _⟩) (v := ?_) rfl (by kernel_rfl) (by kernel_rfl) (by kernel_rfl) (fun _ _ _ h => h) (Or.inl ⟨by rfl, ?_⟩) (by assumption) ?_
    rotate_left
    ·((intro w' hSw; obtain ⟨s0, s1, s3, s4, s16, -, -⟩ := hSw; go_simp); (try with_reducible rfl))
    try simp only [Act.put, List.setIfInBounds_toArray, List.set_cons_zero, List.set_cons_succ]
    refine wpAnyH_done (by kernel_rfl) ?_ _
    clear hH GC B1 Y2 Y1 KE RLL AL TH2 LK CC
    generalize u2.setCells (w.heap.size + 1) 0 ([.int .i64 3, .int .i64 id, .int .i64 (tn : Int), .int .i64 nte, .int .i64 (fx - 1), .int .i64 tb, .int .i64 ncm, .bool false, .slice x1.1 x1.2.1 x1.2.2, .bool false, .slice none 0 0, .slice none 0 0, .slice none 0 0, .slice none 0 0, .slice none 0 0] : List Value) = WF at *
    go_wp2
    exact ⟨rfl, _, results_cell_two Tryz.results12 _ WF (w.heap.size + 1) 57 _ (0, 0) _ rfl XF.out Tryz.underlying57 rfl HM2.out, (by obtain ⟨K, e, r⟩ := FIN.out; exact ⟨K, by rw [← e]; first | rfl | (rw [hbf]; rfl), r⟩)⟩
end
end Go.Proofs.YtmdajbbpigbdcaaGreat
