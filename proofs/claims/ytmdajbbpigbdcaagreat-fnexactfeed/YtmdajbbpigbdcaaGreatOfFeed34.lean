/-
  The program's Feed.
-/
import Derived.Test.YtmdajbbpigbdcaaGreatOfFeed32
import Derived.Test.YtmdajbbpigbdcaaGreatOfFeed29
import Derived.Test.YtmdajbbpigbdcaaGreatOfFeed33
namespace Go.Proofs.YtmdajbbpigbdcaaGreat
set_option maxRecDepth 100000
set_option maxHeartbeats 8000000
section
open Go.RowKit

theorem results_cell_two {P : Program} {fn : Func} {p q : Tmp} {ty : TypeId} (h : fn.results = #[.cell p ty, .tmp q]) (tmps : Array Value) (w : World) (g : Nat) (t : TypeId) (cs : Array Value) (fr : Nat × Nat) (d : TypeDesc)
  (hp : tmps.getD p undef = .pointer (some ⟨g, 0, none⟩)) (hg : w.heap[g]? = some (.cells cs t fr))
  (hu : P.underlying ty = some d) (hd : (match d with | .struct _ | .array _ _ => true | _ => false) = true) (hi : (P.info? ty).map (·.size) = some cs.size) :
  (results fn tmps).run P w = .ok (.tuple #[.agg cs, tmps.getD q undef]) w := by
 have hp' : tmps[p]?.getD undef = .pointer (some ⟨g, 0, none⟩) := by simpa using hp
 simp [results, h, hp', asAddr, run_loadVar_row w g t ty cs fr d hg hu hd hi]
theorem twoOf_any (a b size : Int) (w : World) : Calls Tryz.prog 48 #[.int .i64 a, .int .i64 b, .int .i64 size] w fun e w' => e = .returned (.bool (inB a 0 (size - 1) && (inB b 0 (size - 1) && decide (a ≠ b)))) ∧ w' = w := by
 go_enter Tryz.func48, Tryz.ntmps48
 go_wp2_with fail
 refine (isOneOf_any _ _ _).mono ?_
 rintro e w1 ⟨rfl, hw1⟩
 subst hw1
 cases h1 : inB a 0 (size - 1)
 ·go_wp2
  go_ret
  exact ⟨ret_bool (by simp [h1]), rfl⟩
 go_wp2_with fail
 refine (isOneOf_any _ _ _).mono ?_
 rintro e w2 ⟨rfl, hw2⟩
 subst hw2
 cases h2 : inB b 0 (size - 1)
 ·go_wp2
  go_ret
  exact ⟨ret_bool (by simp [h2]), rfl⟩
 by_cases h3 : a = b
 ·have h3b : (a != b) = false := by simp [h3]
  go_wp2
  go_ret
  exact ⟨ret_bool (by simp [h3]), rfl⟩
 ·have h3b : (a != b) = true := by simp [h3]
  go_wp2
  go_ret
  exact ⟨ret_bool (by simp [h1, h2, h3]), rfl⟩
theorem feedB_parts {N : NodV} {D : Nd} {size ti : Int} (h : feedB N D size ti = true) : ∃ tn : Nat, ti = tn ∧ tn < D.nx.length ∧ I64 N.lb ∧ I64 (feedX D ti) ∧ I64 (feedX D ti - 1) := by
 unfold feedB at h
 simp only [Bool.and_eq_true, decide_eq_true_eq] at h
 obtain ⟨h1, h2, h3, h4⟩ := h
 obtain ⟨z1, z2, z3, z4⟩ := nodeOkB_sizes h1
 have h5 := inB_iff.1 h4
 obtain ⟨tn, rfl⟩ := Int.eq_ofNat_of_zero_le h5.1
 have ht : tn < D.nx.length := by omega
 simp only [nodeOkB, nodeP, Bool.and_eq_true, decide_eq_true_eq] at h1
 obtain ⟨a1, a2, a3, a4, a5, a6, a7, a8, a9, a10, a11, a12, a13, a14, a15⟩ := h1
 have hl := lastN_small a5
 have hlb : 0 ≤ N.lb ∧ N.lb ≤ 100000 := by
  simp only [logOkB, Bool.and_eq_true, decide_eq_true_eq] at a5
  exact inB_iff.1 a5.1
 simp only [allIn, List.all_eq_true, List.mem_range] at a14
 have hx := inB_iff.1 (a14 tn ht)
 have e : feedX D (tn : Int) = iAt D.nx tn := by simp [feedX]
 refine ⟨tn, rfl, ht, ?_, ?_, ?_⟩
 ·unfold I64; omega
 ·rw [e]; unfold I64; omega
 ·rw [e]; unfold I64; omega

theorem implFeed_any (n : Nat) (N : NodV) (D : Nd) (size ti : Int) (F1 : Nat → Prop) (w : World) (h : NodAt n w N D) (hs : D.small n) (s1 : Src true n w F1 N.s.x D.T1) :
  Calls Tryz.prog 13 #[N.val, .int .i64 size, .int .i64 ti] w fun e w' => ∃ K : RpcV, e = .returned (.tuple #[K.val, .bool (feedB N D size ti)]) ∧ (feedV N D size ti).like K ∧ RpcDh n w' w.heap.size w'.heap.size K (feedD N D size ti) ∧ Below w.heap.size w w' := by
 have OK : Hid (∀ u, Below w.heap.size w u → Calls Tryz.prog 30 #[N.val, .int .i64 size] u fun e w' => e = .returned (.bool (nodeOkB N D size)) ∧ Below u.heap.size u w') := fun u hu => implNodeOk_any n N D size u (h.below hu) hs
 have LD : Hid (∀ u, Calls Tryz.prog 47 #[N.val] u fun e w' => e = .returned (.bool (N.ro == 2)) ∧ Below u.heap.size u w') := fun u => leads_any N u
 have FP : Hid (feedB N D size ti = true → ∃ tn : Nat, ti = tn ∧ tn < D.nx.length ∧ I64 N.lb ∧ I64 (feedX D ti) ∧ I64 (feedX D ti - 1)) := feedB_parts
 have SN : Hid (feedB N D size ti = true → feedX D ti ≤ N.lb → ∀ u, Below w.heap.size w u → Calls Tryz.prog 49 #[N.val, .int .i64 ti, .int .i64 5] u fun e w' => ∃ K : RpcV, e = .returned K.val ∧ (feedV N D size ti).like K ∧ RpcDh n w' u.heap.size w'.heap.size K (feedD N D size ti) ∧ Below u.heap.size u w') := fun hf hx u hu => by
  unfold feedV feedD
  rw [if_pos hf, if_pos hx, if_pos hf, if_pos hx]
  exact sentSnap_any n N D ti F1 u (h.below hu) hs (s1.below hu)
 have PU : Hid (feedB N D size ti = true → ¬ feedX D ti ≤ N.lb → ∀ u, Below w.heap.size w u → Calls Tryz.prog 49 #[N.val, .int .i64 ti, .int .i64 3] u fun e w' => ∃ K : RpcV, e = .returned K.val ∧ (feedV N D size ti).like K ∧ RpcDh n w' u.heap.size w'.heap.size K (feedD N D size ti) ∧ Below u.heap.size u w') := fun hf hx u hu => by
  obtain ⟨tn, p1, p2, p3, p4, p5⟩ := feedB_parts hf
  unfold feedV feedD
  rw [if_pos hf, if_neg hx, if_pos hf, if_neg hx]
  exact sentPut_any n N D ti u (h.below hu) hs tn p1 p2 p3 p4 p5
 have NOF : Hid (feedB N D size ti = false → feedV N D size ti = rpNo ∧ feedD N D size ti = ⟨[], zT, []⟩) := fun hf => by
  unfold feedV feedD
  rw [hf]
  exact ⟨rfl, rfl⟩
 have IDB : Hid (nodeOkB N D size = true → inB N.id 0 (size - 1) = true) := fun h1 => by
  simp only [nodeOkB, nodeP, Bool.and_eq_true, decide_eq_true_eq] at h1
  exact h1.2.1
 have FB : Hid (feedB N D size ti = (nodeOkB N D size && (decide (N.ro = 2) && (decide (¬ ti = N.id) && inB ti 0 (size - 1))))) := rfl
 obtain ⟨n', hn'⟩ : ∃ n', n = n' + 1 := by
  cases n with
  | zero => exact (h.2.1.1).elim
  | succ n' => exact ⟨n', rfl⟩
 have HN' := hid9 hn'
 clear hn'
 obtain ⟨an, bN, oN, cn, hnv, hcn, hmn, han, hxn⟩ := h.2.2.2.1.ints
 have RN : Hid (∀ (tn : Nat) u, ti = tn → tn < D.nx.length → Below w.heap.size w u → u.cell? ⟨bN, oN + tn, none⟩ = some (.int .i64 (feedX D ti)) ∧ an = some ⟨bN, oN, none⟩) := fun tn u e ht hu => by
  subst e
  have hx0 : feedX D (tn : Int) = iAt D.nx tn := by simp [feedX]
  rw [hx0]
  exact ⟨(hu.cell (cell_lt (hxn tn ht))).trans (hxn tn ht), han (by omega)⟩
 clear h hs s1 hxn han hcn
 unfold maxLen at hmn
 generalize nodeOkB N D size = b1 at *
 generalize feedV N D size ti = FV at *
 generalize feedD N D size ti = FD at *
 generalize feedB N D size ti = bf at *
 generalize feedX D ti = fx at *
 generalize D.nx.length = nN at *
 obtain ⟨id, nte, vo, lb, lt, lv, ⟨⟨sl, sp, sc, sk, sb⟩, sv⟩, ro, vv, nv, mv, ncm, ⟨⟨ol, op, oc, ok, ob⟩, ov⟩⟩ := N
 simp only at hnv
 subst hnv
 replace OK : Hid (∀ u, Below w.heap.size w u → Calls Tryz.prog 30 #[.agg (List.toArray ([.int .i64 id, .int .i64 nte, .int .i64 vo, .int .i64 lb, .int .i64 lt, lv, .bool sl, sp, sc, sk, sb, sv, .int .i64 ro, vv, .slice an nN cn, mv, .int .i64 ncm, .bool ol, op, oc, ok, ob, ov] : List Value)), .int .i64 size] u fun e w' => e = .returned (.bool b1) ∧ Below u.heap.size u w') := OK
 replace LD : Hid (∀ u, Calls Tryz.prog 47 #[.agg (List.toArray ([.int .i64 id, .int .i64 nte, .int .i64 vo, .int .i64 lb, .int .i64 lt, lv, .bool sl, sp, sc, sk, sb, sv, .int .i64 ro, vv, .slice an nN cn, mv, .int .i64 ncm, .bool ol, op, oc, ok, ob, ov] : List Value))] u fun e w' => e = .returned (.bool (ro == 2)) ∧ Below u.heap.size u w') := LD
 replace SN : Hid (bf = true → fx ≤ lb → ∀ u, Below w.heap.size w u → Calls Tryz.prog 49 #[.agg (List.toArray ([.int .i64 id, .int .i64 nte, .int .i64 vo, .int .i64 lb, .int .i64 lt, lv, .bool sl, sp, sc, sk, sb, sv, .int .i64 ro, vv, .slice an nN cn, mv, .int .i64 ncm, .bool ol, op, oc, ok, ob, ov] : List Value)), .int .i64 ti, .int .i64 5] u fun e w' => ∃ K : RpcV, e = .returned K.val ∧ FV.like K ∧ RpcDh n w' u.heap.size w'.heap.size K FD ∧ Below u.heap.size u w') := SN
 replace PU : Hid (bf = true → ¬ fx ≤ lb → ∀ u, Below w.heap.size w u → Calls Tryz.prog 49 #[.agg (List.toArray ([.int .i64 id, .int .i64 nte, .int .i64 vo, .int .i64 lb, .int .i64 lt, lv, .bool sl, sp, sc, sk, sb, sv, .int .i64 ro, vv, .slice an nN cn, mv, .int .i64 ncm, .bool ol, op, oc, ok, ob, ov] : List Value)), .int .i64 ti, .int .i64 3] u fun e w' => ∃ K : RpcV, e = .returned K.val ∧ FV.like K ∧ RpcDh n w' u.heap.size w'.heap.size K FD ∧ Below u.heap.size u w') := PU
 have HI : Hid ((Tryz.prog.info? 50).map (·.size) = some (List.length ([.int .i64 id, .int .i64 nte, .int .i64 vo, .int .i64 lb, .int .i64 lt, lv, .bool sl, sp, sc, sk, sb, sv, .int .i64 ro, vv, .slice an nN cn, mv, .int .i64 ncm, .bool ol, op, oc, ok, ob, ov] : List Value))) := (show (Tryz.prog.info? 50).map (·.size) = some 23 by kernel_rfl)
 have B1 : Hid (Below w.heap.size w ((w.alloc (.cells #[.int .i64 id, .int .i64 nte, .int .i64 vo, .int .i64 lb, .int .i64 lt, lv, .bool sl, sp, sc, sk, sb, sv, .int .i64 ro, vv, .slice an nN cn, mv, .int .i64 ncm, .bool ol, op, oc, ok, ob, ov] 50)).alloc (.cells #[.int .i64 0, .int .i64 0, .int .i64 0, .int .i64 0, .int .i64 0, .int .i64 0, .int .i64 0, .bool false, .slice none 0 0, .bool false, .slice none 0 0, .slice none 0 0, .slice none 0 0, .slice none 0 0, .slice none 0 0] 57))) := Below.and (bel_nw _ _) (bel_nw _ _)
 have Y1 : Hid (((w.alloc (.cells #[.int .i64 id, .int .i64 nte, .int .i64 vo, .int .i64 lb, .int .i64 lt, lv, .bool sl, sp, sc, sk, sb, sv, .int .i64 ro, vv, .slice an nN cn, mv, .int .i64 ncm, .bool ol, op, oc, ok, ob, ov] 50)).alloc (.cells #[.int .i64 0, .int .i64 0, .int .i64 0, .int .i64 0, .int .i64 0, .int .i64 0, .int .i64 0, .bool false, .slice none 0 0, .bool false, .slice none 0 0, .slice none 0 0, .slice none 0 0, .slice none 0 0, .slice none 0 0] 57)).heap[w.heap.size]? = some (.cells (List.toArray ([.int .i64 id, .int .i64 nte, .int .i64 vo, .int .i64 lb, .int .i64 lt, lv, .bool sl, sp, sc, sk, sb, sv, .int .i64 ro, vv, .slice an nN cn, mv, .int .i64 ncm, .bool ol, op, oc, ok, ob, ov] : List Value)) 50 (0, 0))) := step_at (MBox.start 50 w #[.int .i64 id, .int .i64 nte, .int .i64 vo, .int .i64 lb, .int .i64 lt, lv, .bool sl, sp, sc, sk, sb, sv, .int .i64 ro, vv, .slice an nN cn, mv, .int .i64 ncm, .bool ol, op, oc, ok, ob, ov]) (bel_nw _ _)
 have Y2 : Hid (((w.alloc (.cells #[.int .i64 id, .int .i64 nte, .int .i64 vo, .int .i64 lb, .int .i64 lt, lv, .bool sl, sp, sc, sk, sb, sv, .int .i64 ro, vv, .slice an nN cn, mv, .int .i64 ncm, .bool ol, op, oc, ok, ob, ov] 50)).alloc (.cells #[.int .i64 0, .int .i64 0, .int .i64 0, .int .i64 0, .int .i64 0, .int .i64 0, .int .i64 0, .bool false, .slice none 0 0, .bool false, .slice none 0 0, .slice none 0 0, .slice none 0 0, .slice none 0 0, .slice none 0 0] 57)).heap[w.heap.size + 1]? = some (.cells #[.int .i64 0, .int .i64 0, .int .i64 0, .int .i64 0, .int .i64 0, .int .i64 0, .int .i64 0, .bool false, .slice none 0 0, .bool false, .slice none 0 0, .slice none 0 0, .slice none 0 0, .slice none 0 0, .slice none 0 0] 57 (0, 0))) := by
  have := MBox.start 57 (w.alloc (.cells #[.int .i64 id, .int .i64 nte, .int .i64 vo, .int .i64 lb, .int .i64 lt, lv, .bool sl, sp, sc, sk, sb, sv, .int .i64 ro, vv, .slice an nN cn, mv, .int .i64 ncm, .bool ol, op, oc, ok, ob, ov] 50)) #[.int .i64 0, .int .i64 0, .int .i64 0, .int .i64 0, .int .i64 0, .int .i64 0, .int .i64 0, .bool false, .slice none 0 0, .bool false, .slice none 0 0, .slice none 0 0, .slice none 0 0, .slice none 0 0, .slice none 0 0]
  rw [World.size_alloc] at this
  exact this
 have zw : Hid (w.heap.size + 2 ≤ ((w.alloc (.cells #[.int .i64 id, .int .i64 nte, .int .i64 vo, .int .i64 lb, .int .i64 lt, lv, .bool sl, sp, sc, sk, sb, sv, .int .i64 ro, vv, .slice an nN cn, mv, .int .i64 ncm, .bool ol, op, oc, ok, ob, ov] 50)).alloc (.cells #[.int .i64 0, .int .i64 0, .int .i64 0, .int .i64 0, .int .i64 0, .int .i64 0, .int .i64 0, .bool false, .slice none 0 0, .bool false, .slice none 0 0, .slice none 0 0, .slice none 0 0, .slice none 0 0, .slice none 0 0] 57)).heap.size) := by show _ ≤ _; simp
 have CC : Hid (∀ u : World, u.heap[w.heap.size]? = some (.cells (List.toArray ([.int .i64 id, .int .i64 nte, .int .i64 vo, .int .i64 lb, .int .i64 lt, lv, .bool sl, sp, sc, sk, sb, sv, .int .i64 ro, vv, .slice an nN cn, mv, .int .i64 ncm, .bool ol, op, oc, ok, ob, ov] : List Value)) 50 (0, 0)) → u.cell? ⟨w.heap.size, 0, none⟩ = some (.int .i64 id) ∧ u.cell? ⟨w.heap.size, 3, none⟩ = some (.int .i64 lb) ∧ u.cell? ⟨w.heap.size, 14, none⟩ = some (.slice an nN cn)) := fun u hu => ⟨cell_of_cells hu, cell_of_cells hu, cell_of_cells hu⟩
 show Calls Tryz.prog 13 #[.agg #[.int .i64 id, .int .i64 nte, .int .i64 vo, .int .i64 lb, .int .i64 lt, lv, .bool sl, sp, sc, sk, sb, sv, .int .i64 ro, vv, .slice an nN cn, mv, .int .i64 ncm, .bool ol, op, oc, ok, ob, ov], .int .i64 size, .int .i64 ti] w _
 go_enter Tryz.func13, Tryz.ntmps13
 go_upto_region 1 with fail
 generalize ((w.alloc (.cells #[.int .i64 id, .int .i64 nte, .int .i64 vo, .int .i64 lb, .int .i64 lt, lv, .bool sl, sp, sc, sk, sb, sv, .int .i64 ro, vv, .slice an nN cn, mv, .int .i64 ncm, .bool ol, op, oc, ok, ob, ov] 50)).alloc (.cells #[.int .i64 0, .int .i64 0, .int .i64 0, .int .i64 0, .int .i64 0, .int .i64 0, .int .i64 0, .bool false, .slice none 0 0, .bool false, .slice none 0 0, .slice none 0 0, .slice none 0 0, .slice none 0 0, .slice none 0 0] 57)) = W at *
 generalize ([.int .i64 id, .int .i64 nte, .int .i64 vo, .int .i64 lb, .int .i64 lt, lv, .bool sl, sp, sc, sk, sb, sv, .int .i64 ro, vv, .slice an nN cn, mv, .int .i64 ncm, .bool ol, op, oc, ok, ob, ov] : List Value) = cs at *
 go_cut [8] (fun x8 wx => x8 = .bool (!bf) ∧ Hid (wx.heap[w.heap.size]? = some (.cells cs.toArray 50 (0, 0))) ∧ Hid (wx.heap[w.heap.size + 1]? = some (.cells #[.int .i64 0, .int .i64 0, .int .i64 0, .int .i64 0, .int .i64 0, .int .i64 0, .int .i64 0, .bool false, .slice none 0 0, .bool false, .slice none 0 0, .slice none 0 0, .slice none 0 0, .slice none 0 0, .slice none 0 0] 57 (0, 0))) ∧ Hid (Below w.heap.size w wx) ∧ Hid (w.heap.size + 2 ≤ wx.heap.size))
 case first =>
  as_aux_lemma =>
   have ra := range_of Y1.out
   rw [List.toList_toArray] at ra
   go_wp2_with (refine wpList_load_g (by rfl) 50 _ rfl w.heap.size 0 rfl cs _ ra Tryz.underlying50 rfl HI.out ?_)
   refine (OK.out _ B1.out).mono ?_
   rintro e w1 ⟨rfl, b2⟩
   replace Y1 := hid9 (step_at Y1.out b2)
   replace Y2 := hid9 (step_at Y2.out b2)
   replace B1 := hid9 (Below.and B1.out b2)
   replace zw := hid9 (Nat.le_trans zw.out b2.size)
   clear b2 ra
   cases h1 : b1
   ·go_wp2_with fail
    go_meet
    exact ⟨by rw [FB.out, h1]; rfl, Y1.out, Y2.out, B1.out, zw.out⟩
   have ra := range_of Y1.out
   rw [List.toList_toArray] at ra
   go_wp2_with (refine wpList_load_g (by rfl) 50 _ rfl w.heap.size 0 rfl cs _ ra Tryz.underlying50 rfl HI.out ?_)
   refine (LD.out _).mono ?_
   rintro e w2 ⟨rfl, b2⟩
   replace Y1 := hid9 (step_at Y1.out b2)
   replace Y2 := hid9 (step_at Y2.out b2)
   replace B1 := hid9 (Below.and B1.out b2)
   replace zw := hid9 (Nat.le_trans zw.out b2.size)
   clear b2 ra
   cases h2 : ro == 2
   ·have h2' : ¬ ro = 2 := by simpa using h2
    go_wp2_with fail
    go_meet
    exact ⟨by rw [FB.out]; simp [h2'], Y1.out, Y2.out, B1.out, zw.out⟩
   have h2' : ro = 2 := by simpa using h2
   obtain ⟨k0, k3, k14⟩ := CC.out _ Y1.out
   have hid0 := IDB.out h1
   have IDH := hid9 hid0
   clear k3 k14 hid0
   go_wp2_with fail
   refine (twoOf_any _ _ _ _).mono ?_
   rintro e w3 ⟨rfl, hw3⟩
   subst hw3
   have E3 : Hid ((inB id 0 (size - 1) && (inB ti 0 (size - 1) && decide (id ≠ ti))) = bf) := by
    show _ = _
    rw [FB.out, IDH.out, h1]
    simp [h2', Bool.and_comm, eq_comm]
   rw [E3.out]
   clear h1 h2 h2' k0
   cases h3 : bf
   ·go_wp2_with fail
    go_meet
    exact ⟨by rw [h3]; rfl, Y1.out, Y2.out, B1.out, zw.out⟩
   ·go_wp2_with fail
    go_meet
    exact ⟨by rw [h3]; rfl, Y1.out, Y2.out, B1.out, zw.out⟩
 case rest =>
  clear Y1 Y2 B1 zw OK LD IDB FB
  obtain ⟨hx8, Y1, Y2, B1, zc⟩ := hcut
  subst hx8
  cases hbf : bf
  ·obtain ⟨e1, e2⟩ := NOF.out hbf
   clear SN PU NOF FP RN CC HI Y1
   go_upto_region 2 with fail
   have TH2 : Hid (wc.there (w.heap.size + 1) 0 (List.toArray ([.int .i64 0, .int .i64 0, .int .i64 0, .int .i64 0, .int .i64 0, .int .i64 0, .int .i64 0, .bool false, .slice none 0 0, .bool false, .slice none 0 0, .slice none 0 0, .slice none 0 0, .slice none 0 0, .slice none 0 0] : List Value)).size) := there_of Y2.out rfl
   have GC : Hid (Chg (fun g => g = (w.heap.size + 1)) wc (wc.setCells (w.heap.size + 1) 0 ([.int .i64 0, .int .i64 0, .int .i64 0, .int .i64 0, .int .i64 0, .int .i64 0, .int .i64 0, .bool false, .slice none 0 0, .bool false, .slice none 0 0, .slice none 0 0, .slice none 0 0, .slice none 0 0, .slice none 0 0] : List Value))) := Chg.setCells (F := fun g => g = (w.heap.size + 1)) (g := (w.heap.size + 1)) (fun _ => rfl) _ 0 wc (Chg.refl _ _)
   have XF : Hid ((wc.setCells (w.heap.size + 1) 0 ([.int .i64 0, .int .i64 0, .int .i64 0, .int .i64 0, .int .i64 0, .int .i64 0, .int .i64 0, .bool false, .slice none 0 0, .bool false, .slice none 0 0, .slice none 0 0, .slice none 0 0, .slice none 0 0, .slice none 0 0] : List Value)).heap[(w.heap.size + 1)]? = some (.cells (List.toArray ([.int .i64 0, .int .i64 0, .int .i64 0, .int .i64 0, .int .i64 0, .int .i64 0, .int .i64 0, .bool false, .slice none 0 0, .bool false, .slice none 0 0, .slice none 0 0, .slice none 0 0, .slice none 0 0, .slice none 0 0] : List Value)) 57 (0, 0))) := setAll_at Y2.out _ rfl
   have HM2 : Hid ((Tryz.prog.info? 57).map (·.size) = some (List.toArray ([.int .i64 0, .int .i64 0, .int .i64 0, .int .i64 0, .int .i64 0, .int .i64 0, .int .i64 0, .bool false, .slice none 0 0, .bool false, .slice none 0 0, .slice none 0 0, .slice none 0 0, .slice none 0 0, .slice none 0 0] : List Value)).size) := (show (Tryz.prog.info? 57).map (·.size) = some 15 by kernel_rfl)
   have FIN : Hid (∃ K : RpcV, Value.agg (List.toArray ([.int .i64 0, .int .i64 0, .int .i64 0, .int .i64 0, .int .i64 0, .int .i64 0, .int .i64 0, .bool false, .slice none 0 0, .bool false, .slice none 0 0, .slice none 0 0, .slice none 0 0, .slice none 0 0, .slice none 0 0] : List Value)) = K.val ∧ FV.like K ∧ RpcDh n (wc.setCells (w.heap.size + 1) 0 ([.int .i64 0, .int .i64 0, .int .i64 0, .int .i64 0, .int .i64 0, .int .i64 0, .int .i64 0, .bool false, .slice none 0 0, .bool false, .slice none 0 0, .slice none 0 0, .slice none 0 0, .slice none 0 0, .slice none 0 0] : List Value)) w.heap.size (wc.setCells (w.heap.size + 1) 0 ([.int .i64 0, .int .i64 0, .int .i64 0, .int .i64 0, .int .i64 0, .int .i64 0, .int .i64 0, .bool false, .slice none 0 0, .bool false, .slice none 0 0, .slice none 0 0, .slice none 0 0, .slice none 0 0, .slice none 0 0] : List Value)).heap.size K FD ∧ Below w.heap.size w (wc.setCells (w.heap.size + 1) 0 ([.int .i64 0, .int .i64 0, .int .i64 0, .int .i64 0, .int .i64 0, .int .i64 0, .int .i64 0, .bool false, .slice none 0 0, .bool false, .slice none 0 0, .slice none 0 0, .slice none 0 0, .slice none 0 0, .slice none 0 0] : List Value))) := by
    refine ⟨rpNo, rfl, by rw [e1]; exact RpcV.like.refl _, ?_, B1.out.trans (GC.out.below (fun g _ hg => by omega) B1.out.size)⟩
    rw [e2]
    have hz := GC.out.size
    have hz2 := zc.out
    refine ⟨w.heap.size, w.heap.size, Nat.le_refl _, Nat.le_refl _, by omega, Nat.le_refl _, ⟨OwnE.nil _ _ _ _, fun g hg => (wrB_none hg).elim⟩, ?_⟩
    have hn' := HN'.out
    subst hn'
    exact zM_own _ _ _
   have AL : Hid ((List.toArray ([.int .i64 0, .int .i64 0, .int .i64 0, .int .i64 0, .int .i64 0, .int .i64 0, .int .i64 0, .bool false, .slice none 0 0, .bool false, .slice none 0 0, .slice none 0 0, .slice none 0 0, .slice none 0 0, .slice none 0 0] : List Value)).all (·.oneCell') = true) := by show _ = _; simp [Value.oneCell']
   clear GC B1 Y2 e1 e2
   go_wp2_with (refine wpList_store_mid rfl 57 _ _ rfl (w.heap.size + 1) 0 (List.toArray ([.int .i64 0, .int .i64 0, .int .i64 0, .int .i64 0, .int .i64 0, .int .i64 0, .int .i64 0, .bool false, .slice none 0 0, .bool false, .slice none 0 0, .slice none 0 0, .slice none 0 0, .slice none 0 0, .slice none 0 0] : List Value)) rfl rfl TH2.out HM2.out AL.out ?_)
   generalize wc.setCells (w.heap.size + 1) 0 ([.int .i64 0, .int .i64 0, .int .i64 0, .int .i64 0, .int .i64 0, .int .i64 0, .int .i64 0, .bool false, .slice none 0 0, .bool false, .slice none 0 0, .slice none 0 0, .slice none 0 0, .slice none 0 0, .slice none 0 0] : List Value) = WF at *
   exact ⟨rfl, _, results_cell_two Tryz.results13 _ WF (w.heap.size + 1) 57 _ (0, 0) _ rfl XF.out Tryz.underlying57 rfl HM2.out, (by obtain ⟨K, e, r⟩ := FIN.out; exact ⟨K, by rw [← e, hbf]; rfl, r⟩)⟩
  ·obtain ⟨tn, hti, ht, -, -, -⟩ := FP.out hbf
   obtain ⟨k0, k3, k14⟩ := CC.out _ Y1.out
   obtain ⟨rn, han⟩ := RN.out tn _ hti ht B1.out
   subst han
   have ht2 : ((tn : Nat) : Int) < ((nN : Nat) : Int) := by omega
   have SNN := SN.out hbf
   have PUU := PU.out hbf
   clear SN PU NOF FP RN CC HN'
   have TI := hid9 hti
   subst hti
   go_upto_region 3 with fail
   by_cases hx : fx ≤ lb
   ·have SENT := hid9 (SNN hx)
    clear SNN PUU
    go_quiet (fail)
    have dw : Below wc.heap.size wc (wc.drewN nq) := below_drewN (Below.refl _ _) nq
    replace Y1 := hid9 (step_at Y1.out dw)
    replace Y2 := hid9 (step_at Y2.out dw)
    replace B1 := hid9 (Below.and B1.out dw)
    replace zc : Hid (w.heap.size + 2 ≤ (wc.drewN nq).heap.size) := Nat.le_trans zc.out dw.size
    clear dw k0 k3 k14 rn
    go_upto_region 4 with fail
    generalize wc.drewN nq = V at *
    have ra := range_of Y1.out
    rw [List.toList_toArray] at ra
    go_wp2_with (refine wpList_load_g (by rfl) 50 _ rfl w.heap.size 0 rfl cs _ ra Tryz.underlying50 rfl HI.out ?_)
    refine (SENT.out _ B1.out).mono ?_
    rintro e V5 ⟨K5, rfl, lk, rd, b5⟩
    replace Y2 := hid9 (step_at Y2.out b5)
    replace B1 := hid9 (Below.and B1.out b5)
    obtain ⟨ks, ksv, ksl, kso⟩ := rd.at.cells
    have LKK := hid9 lk
    have RD := hid9 rd
    clear lk rd b5 ra SENT Y1 HI
    rw [ksv]
    have KV := hid9 ksv
    clear ksv
    have TH2 : Hid (V5.there (w.heap.size + 1) 0 ks.toArray.size) := there_of Y2.out (show 15 = ks.toArray.size by rw [List.size_toArray, ksl])
    have GC : Hid (Chg (fun g => g = (w.heap.size + 1)) V5 (V5.setCells (w.heap.size + 1) 0 ks)) := Chg.setCells (F := fun g => g = (w.heap.size + 1)) (g := (w.heap.size + 1)) (fun _ => rfl) ks 0 V5 (Chg.refl _ _)
    have XF : Hid ((V5.setCells (w.heap.size + 1) 0 ks).heap[(w.heap.size + 1)]? = some (.cells ks.toArray 57 (0, 0))) := setAll_at Y2.out ks (by rw [ksl]; rfl)
    have HM2 : Hid ((Tryz.prog.info? 57).map (·.size) = some ks.toArray.size) := by show _ = _; rw [List.size_toArray, ksl]; kernel_rfl
    have FIN : Hid (∃ K : RpcV, Value.agg ks.toArray = K.val ∧ FV.like K ∧ RpcDh n (V5.setCells (w.heap.size + 1) 0 ks) w.heap.size (V5.setCells (w.heap.size + 1) 0 ks).heap.size K FD ∧ Below w.heap.size w (V5.setCells (w.heap.size + 1) 0 ks)) := ⟨K5, KV.out.symm, LKK.out, (RD.out.chg GC.out (fun g a _ e => by have := zc.out; omega)).up (by have := zc.out; omega) GC.out.size (Nat.le_refl _), B1.out.trans (GC.out.below (fun g _ hg => by omega) B1.out.size)⟩
    clear GC RD LKK B1 Y2
    go_wp2_with (refine wpList_store_mid rfl 57 _ _ rfl (w.heap.size + 1) 0 ks.toArray rfl rfl TH2.out HM2.out kso ?_)
    generalize V5.setCells (w.heap.size + 1) 0 ks = WF at *
    exact ⟨rfl, _, results_cell_two Tryz.results13 _ WF (w.heap.size + 1) 57 ks.toArray (0, 0) _ rfl XF.out Tryz.underlying57 rfl HM2.out, (by obtain ⟨K, e, r⟩ := FIN.out; exact ⟨K, by rw [← e, hbf]; rfl, r⟩)⟩
   ·have SENT := hid9 (PUU hx)
    clear SNN PUU
    go_quiet (fail)
    have dw : Below wc.heap.size wc (wc.drewN nq) := below_drewN (Below.refl _ _) nq
    replace Y1 := hid9 (step_at Y1.out dw)
    replace Y2 := hid9 (step_at Y2.out dw)
    replace B1 := hid9 (Below.and B1.out dw)
    replace zc : Hid (w.heap.size + 2 ≤ (wc.drewN nq).heap.size) := Nat.le_trans zc.out dw.size
    clear dw k0 k3 k14 rn
    go_upto_region 5 with fail
    generalize wc.drewN nq = V at *
    have ra := range_of Y1.out
    rw [List.toList_toArray] at ra
    go_wp2_with (refine wpList_load_g (by rfl) 50 _ rfl w.heap.size 0 rfl cs _ ra Tryz.underlying50 rfl HI.out ?_)
    refine (SENT.out _ B1.out).mono ?_
    rintro e V5 ⟨K5, rfl, lk, rd, b5⟩
    replace Y2 := hid9 (step_at Y2.out b5)
    replace B1 := hid9 (Below.and B1.out b5)
    obtain ⟨ks, ksv, ksl, kso⟩ := rd.at.cells
    have LKK := hid9 lk
    have RD := hid9 rd
    clear lk rd b5 ra SENT Y1 HI
    rw [ksv]
    have KV := hid9 ksv
    clear ksv
    have TH2 : Hid (V5.there (w.heap.size + 1) 0 ks.toArray.size) := there_of Y2.out (show 15 = ks.toArray.size by rw [List.size_toArray, ksl])
    have GC : Hid (Chg (fun g => g = (w.heap.size + 1)) V5 (V5.setCells (w.heap.size + 1) 0 ks)) := Chg.setCells (F := fun g => g = (w.heap.size + 1)) (g := (w.heap.size + 1)) (fun _ => rfl) ks 0 V5 (Chg.refl _ _)
    have XF : Hid ((V5.setCells (w.heap.size + 1) 0 ks).heap[(w.heap.size + 1)]? = some (.cells ks.toArray 57 (0, 0))) := setAll_at Y2.out ks (by rw [ksl]; rfl)
    have HM2 : Hid ((Tryz.prog.info? 57).map (·.size) = some ks.toArray.size) := by show _ = _; rw [List.size_toArray, ksl]; kernel_rfl
    have FIN : Hid (∃ K : RpcV, Value.agg ks.toArray = K.val ∧ FV.like K ∧ RpcDh n (V5.setCells (w.heap.size + 1) 0 ks) w.heap.size (V5.setCells (w.heap.size + 1) 0 ks).heap.size K FD ∧ Below w.heap.size w (V5.setCells (w.heap.size + 1) 0 ks)) := ⟨K5, KV.out.symm, LKK.out, (RD.out.chg GC.out (fun g a _ e => by have := zc.out; omega)).up (by have := zc.out; omega) GC.out.size (Nat.le_refl _), B1.out.trans (GC.out.below (fun g _ hg => by omega) B1.out.size)⟩
    clear GC RD LKK B1 Y2
    go_wp2_with (refine wpList_store_mid rfl 57 _ _ rfl (w.heap.size + 1) 0 ks.toArray rfl rfl TH2.out HM2.out kso ?_)
    generalize V5.setCells (w.heap.size + 1) 0 ks = WF at *
    exact ⟨rfl, _, results_cell_two Tryz.results13 _ WF (w.heap.size + 1) 57 ks.toArray (0, 0) _ rfl XF.out Tryz.underlying57 rfl HM2.out, (by obtain ⟨K, e, r⟩ := FIN.out; exact ⟨K, by rw [← e, hbf]; rfl, r⟩)⟩
end
end Go.Proofs.YtmdajbbpigbdcaaGreat
