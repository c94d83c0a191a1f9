/-
  The walk of the law FnExactSend.
-/
import Derived.Test.YtkcaelfkcepdkaaGreatOfSend47
import Derived.Test.YtkcaelfkcepdkaaGreatOfSend48
import Derived.Test.YtkcaelfkcepdkaaGreatOfSend28
import Derived.Test.YtkcaelfkcepdkaaGreatOfSend10
import Derived.Deep.RegionHeld3
namespace Go.Proofs.YtkcaelfkcepdkaaGreat
set_option maxRecDepth 100000
set_option maxHeartbeats 8000000
section
open Go.RowKit

theorem wpList_load_g2 {P : Program} {ops : Array Oper} {rest : List Oper} {op : Oper} {a : Act} {w : World} {Q : Exit → Act → World → Prop} (hw : Region.wanted op (yielded ops a.tmps) = true) (ty : TypeId) (x : Operand) (ho : op.op = .load ty x)
  (b o : Nat) (hx : a.eval x = .pointer (some ⟨b, o, none⟩)) (cs : List Value) (d : TypeDesc) (hc : w.rangeAt b o cs)
  (hu : P.underlying ty = some d) (hd : d.isRow = true) (hi : (P.info? ty).map (·.size) = some cs.length)
  (h : wpList P ops Q rest (a.put op.dst (.agg cs.toArray)) w) : wpList P ops Q (op :: rest) a w :=
 wpList_step fun _ hK => by rw [if_pos hw]; exact wp_load_mid ty x ho b o hx cs d hc hu hd hi (hK _ _ h)
theorem newAllS {w : World} {t : TypeId} {A : Array Value} {vs : List Value} (hn : A.size = vs.length) : Below w.heap.size w ((w.alloc (.cells A t)).setCells w.heap.size 0 vs) ∧ ((w.alloc (.cells A t)).setCells w.heap.size 0 vs).heap[w.heap.size]? = some (.cells vs.toArray t (0, 0)) :=
 ⟨(bel_nw w _).trans ((Chg.setCells (F := fun g => g = w.heap.size) (g := w.heap.size) (fun _ => rfl) vs 0 _ (Chg.refl _ _)).below (fun g _ hg => by omega) (bel_nw w _).size), setAll_at (heap_alloc_new w _) vs hn⟩
theorem WrAt.cells6 {n : Nat} {w : World} {W : WrV} {D : Wd} (h : WrAt n w W D) : ∃ cs : List Value, W.val = .agg cs.toArray ∧ cs.length = 6 ∧ cs.toArray.all (·.oneCell') = true := by
 obtain ⟨sz, nv, rv, cv, av, lv⟩ := W
 exact ⟨_, rfl, rfl, h.ones6⟩
theorem sumE_all {ε : Type} (f : ε → Nat) (es : List ε) : sumE f es es.length = (es.map f).sum := by unfold sumE; rw [List.take_length]
theorem sum_take {ε : Type} (f : ε → Nat) (es : List ε) (k : Nat) : ((es.take k).map f).sum ≤ (es.map f).sum := by
 have := congrArg (fun l => (l.map f).sum) (List.take_append_drop k es)
 simp only [List.map_append, List.sum_append] at this
 omega
theorem sum_le9 {ε : Type} (f g : ε → Nat) (h : ∀ e, f e ≤ 9 + 6 * g e) : ∀ es : List ε, (es.map f).sum ≤ 9 * es.length + 6 * (es.map g).sum
 | [] => by simp
 | e :: es => by
  have a := h e
  have b := sum_le9 f g h es
  simp only [List.map_cons, List.sum_cons, List.length_cons]
  omega
theorem nodK_le (n : Nat) (e : NodE) : nodK n e ≤ 9 + 6 * nodN n e := by
 have a := mkT_le n e.2.T1
 have b := mkT_le n e.2.T2
 unfold nodK nodN Nd.all
 omega
theorem rpcK_le (n : Nat) (e : RpcE) : rpcK n e ≤ 9 + 6 * rpcN n e := by
 have a := mkT_le n e.2.T
 unfold rpcK rpcN Rd.all
 omega
theorem LsLk.mapEq {ε β : Type} {lk : ε → ε → Prop} {f : ε → β} (hf : ∀ e e', lk e e' → f e = f e') {a b : List ε} (h : LsLk lk a b) : a.map f = b.map f :=
 List.ext_getElem (by simp [h.1]) (fun i h1 h2 => by simp only [List.length_map] at h1 h2; rw [List.getElem_map, List.getElem_map]; exact hf _ _ (h.2 i h1 h2))
theorem nodK_lk (n : Nat) (e e' : NodE) (h : nodLk e e') : nodK n e = nodK n e' := by unfold nodK; rw [h.2]
theorem rpcK_lk (n : Nat) (e e' : RpcE) (h : rpcLk e e') : rpcK n e = rpcK n e' := by unfold rpcK; rw [h.2]
theorem wK5_le (n : Nat) (D : Wd) : wK5 n 1 D ≤ 1 + 9 * (D.tot n : Nat) := by
 have a := sum_le9 _ _ (nodK_le n) D.ns
 have b := sum_le9 _ _ (rpcK_le n) D.rs
 unfold wK5 wK4 wK3 wK2 wK1 Wd.tot
 rw [sumE_all, sumE_all, sumE_all, sumE_all]
 omega
theorem wK5_lk (n : Nat) (k : Int) {D E : Wd} (h : D.like E) : wK5 n k D = wK5 n k E := by
 unfold wK5 wK4 wK3 wK2 wK1
 rw [sumE_all, sumE_all, sumE_all, sumE_all, h.n.mapEq (nodK_lk n), h.r.mapEq (rpcK_lk n), h.c, h.d, h.l]
theorem tot_sent (n : Nat) (D : Wd) (es : List RpcE) : (D.sent es).tot n ≤ D.tot n + es.length + (es.map (rpcN n)).sum := by
 have := sum_take (rpcN n) es (30 - D.rs.length)
 unfold Wd.tot Wd.sent
 simp only
 rw [sumE_all, sumE_all, sumE_all, List.map_append, List.sum_append, List.length_append, List.length_take]
 omega
def SndX (W : WrV) (D : Wd) (V : WrV) (E : Wd) : Prop := W.sz = V.sz ∧ D.like E
def SndSm (n : Nat) (D : Wd) (es : List RpcE) : Prop := D.small n ∧ (∀ e ∈ es, e.2.small n) ∧ D.tot n + es.length + (es.map (rpcN n)).sum ≤ 1048576
theorem SndSm.x {n : Nat} {D E : Wd} {es : List RpcE} (h : SndSm n D es) (k : D.like E) : wK5 n 1 E ≤ 9437185 := by
 rw [← wK5_lk n 1 k]
 have := wK5_le n D
 have := h.2.2
 omega
theorem SndSm.g {n : Nat} {D E : Wd} {es : List RpcE} (h : SndSm n D es) (k : (D.sent es).like E) : wK5 n 1 E ≤ 9437185 := by
 rw [← wK5_lk n 1 k]
 have := wK5_le n (D.sent es)
 have := tot_sent n D es
 have := h.2.2
 omega
theorem SndSm.l {n : Nat} {D : Wd} {es fs : List RpcE} (h : SndSm n D es) (k : LsLk rpcLk es fs) : (sumE (rpcK n) fs fs.length : Nat) ≤ 9437184 := by
 rw [sumE_all, ← k.mapEq (rpcK_lk n)]
 have := sum_le9 _ _ (rpcK_le n) es
 have := h.2.2
 omega
theorem wK5_pos (n : Nat) (D : Wd) : 0 ≤ wK5 n 1 D := by unfold wK5 wK4 wK3 wK2 wK1; omega
theorem rpc_smalls {n : Nat} {es fs : List RpcE} (h : ∀ e ∈ es, e.2.small n) (k : LsLk rpcLk es fs) : ∀ e ∈ fs, e.2.small n := fun e he => by
 obtain ⟨i, hi, rfl⟩ := List.getElem_of_mem he
 have hi' : i < es.length := by have := k.1; omega
 rw [← (k.2 i hi' hi).2]
 exact h _ (List.getElem_mem hi')
theorem LsI.rat {n : Nat} {w : World} {lo hi : Nat} {v : Value} {es : List RpcE} (h : LsI rpcC (rpcI n) noRpc 87 15 w lo hi v es) : LsAt rpcC (rpcAt n) w v es := h.at (At := rpcAt n) (fun _ _ _ _ h => RpcA.at h)
theorem run_toW (args : Array Value) (w : World) : (callFunc 8 args).run Tryz.prog w = .ok (.enter 8 args) w := by go_simp
theorem run_eqW (args : Array Value) (w : World) : (callFunc 11 args).run Tryz.prog w = .ok (.enter 11 args) w := by go_simp

theorem fnExactSend_any (n : Nat) (W : WrV) (D : Wd) (vl : Value) (es : List RpcE) (w : World) (h : WrAt (n + 1) w W D) (hl : LsAt rpcC (rpcAt (n + 1)) w vl es) :
  Calls Tryz.prog 3 #[W.val, vl] w fun e w' => e = .returned (.bool true) ∧ Below w.heap.size w w' := by
 have TT := hq h
 have TL := hq hl
 have SZ1 : Hid (∀ u, Below w.heap.size w u → Calls Tryz.prog 5 #[W.val, .int .i64 1048576] u fun e w' => ∃ r : Int, e = .returned (.int .i64 r) ∧ r ≤ 1048576 ∧ (¬ r < 0 → D.small (n + 1) ∧ r + (D.tot (n + 1) : Nat) ≤ 1048576) ∧ Below u.heap.size u w') := fun u hu => szWorld_n (n + 1) W D u (TT.out.below hu)
 have SZ2 : Hid (∀ u (r : Int), Below w.heap.size w u → ¬ r < 0 → r ≤ 1048576 → D.small (n + 1) ∧ r + (D.tot (n + 1) : Nat) ≤ 1048576 → Calls Tryz.prog 6 #[vl, .int .i64 r] u fun e w' => ∃ q : Int, e = .returned (.int .i64 q) ∧ (¬ q < 0 → SndSm (n + 1) D es) ∧ Below u.heap.size u w') := fun u r hu h0 h1 hd => (szRpcS_t (n + 1) vl es r u (TL.out.below (rpcAt_b _) hu) (by omega) h1).mono (fun e w' ⟨q, a, b, c, d⟩ => ⟨q, a, fun hq0 => ⟨hd.1, fun x hx => Rd.small_all (by have := sumE_ge (rpcN (n + 1)) es x hx; have := c hq0; unfold rpcN at *; omega), by have := c hq0; rw [sumE_all] at this; have := hd.2; omega⟩, d⟩)
 have TO1 : Hid (∀ u, Below w.heap.size w u → SndSm (n + 1) D es → Calls Tryz.prog 8 #[W.val] u fun e w' => ∃ V E, e = .returned V.val ∧ SndX W D V E ∧ WrI (n + 1) w' u.heap.size w'.heap.size V E ∧ Below u.heap.size u w') := fun u hu hs => (toWorld_d (n + 1) W D u (TT.out.below hu) hs.1).mono (fun e w' ⟨V, E, a, b, c, d⟩ => ⟨V, E, a, ⟨b, c⟩, d⟩)
 have TO2 : Hid (∀ u, Below w.heap.size w u → SndSm (n + 1) D es → Calls Tryz.prog 9 #[vl] u fun e w' => ∃ v fs, e = .returned v ∧ LsLk rpcLk es fs ∧ LsI rpcC (rpcI (n + 1)) noRpc 87 15 w' u.heap.size w'.heap.size v fs ∧ Below u.heap.size u w') := fun u hu hs => toRpcS_d (n + 1) vl es u (TL.out.below (rpcAt_b _) hu) hs.2.1 (by have := hs.2.2; omega)
 have SP1 : Hid (∀ u V E lo hi v fs l1 l2, SndX W D V E → LsLk rpcLk es fs → WrI (n + 1) u lo hi V E → LsI rpcC (rpcI (n + 1)) noRpc 87 15 u l1 l2 v fs → SndSm (n + 1) D es → Calls Tryz.prog 7 #[V.val, v] u fun e w' => ∃ K EK, e = .returned K.val ∧ SndX W (D.sent es) K EK ∧ WrAt (n + 1) w' K EK ∧ Below u.heap.size u w') := fun u V E lo hi v fs l1 l2 hV hf hI hL hs =>
  (specSend_any (n + 1) V E lo hi u hI (hs.1.like hV.2) v fs hL.rat (rpc_smalls hs.2.1 hf) (by rw [← hf.1]; have := hs.2.2; omega)).mono (fun e w' ⟨K, EK, F, a, b, c, d, _, f⟩ => ⟨K, EK, a, ⟨hV.1.trans b, Wd.like.both ((Wd.sent_like hV.2 hf (LsLk.refl rpcLk.refl _)).sm) c⟩, d.at (nodV_at _) (rpcX_at _), f⟩)
 have IP1 : Hid (∀ u V E lo hi v fs l1 l2, SndX W D V E → LsLk rpcLk es fs → WrI (n + 1) u lo hi V E → LsI rpcC (rpcI (n + 1)) noRpc 87 15 u l1 l2 v fs → SndSm (n + 1) D es → Calls Tryz.prog 10 #[V.val, v] u fun e w' => ∃ K EK F, e = .returned K.val ∧ SndX W (D.sent es) K EK ∧ WrS (nodU (n + 1)) (rpcU (n + 1)) w' F K EK ∧ (∀ g, F g → u.heap.size ≤ g ∧ g < w'.heap.size) ∧ Below u.heap.size u w') := fun u V E lo hi v fs l1 l2 hV hf hI hL hs =>
  (implSend_any (n + 1) V E lo hi l1 l2 u hI (hs.1.like hV.2) v fs hL (rpc_smalls hs.2.1 hf) (by rw [← hf.1]; have := hs.2.2; omega)).mono (fun e w' ⟨K, EK, F, a, b, c, d, f, g⟩ => ⟨K, EK, F, a, ⟨hV.1.trans b, Wd.like.both ((Wd.sent_like hV.2 hf (LsLk.refl rpcLk.refl _)).sm) c⟩, d, f, g⟩)
 have EQ1 : Hid (∀ u K EK K' EK', SndX W (D.sent es) K EK → SndX W (D.sent es) K' EK' → WrAt (n + 1) u K EK → WrAt (n + 1) u K' EK' → Calls Tryz.prog 11 #[K.val, K'.val] u fun e w' => e = .returned (.bool true) ∧ Below u.heap.size u w') := fun u K EK K' EK' h1 h2 h3 h4 => eqWorld_t _ K K' EK EK' u (h1.1.symm.trans h2.1) (h1.2.both h2.2) h3 h4
 have EQ2 : Hid (∀ u K EK K' EK', SndX W D K EK → SndX W D K' EK' → WrAt (n + 1) u K EK → WrAt (n + 1) u K' EK' → Calls Tryz.prog 11 #[K.val, K'.val] u fun e w' => e = .returned (.bool true) ∧ Below u.heap.size u w') := fun u K EK K' EK' h1 h2 h3 h4 => eqWorld_t _ K K' EK EK' u (h1.1.symm.trans h2.1) (h1.2.both h2.2) h3 h4
 have EQ3 : Hid (∀ u v fs v' fs', LsLk rpcLk es fs → LsLk rpcLk es fs' → LsAt rpcC (rpcAt (n + 1)) u v fs → LsAt rpcC (rpcAt (n + 1)) u v' fs' → Calls Tryz.prog 12 #[v, v'] u fun e w' => e = .returned (.bool true) ∧ Below u.heap.size u w') := fun u v fs v' fs' h1 h2 h3 h4 => eqRpcS_t _ v v' fs fs' u h3 h4 (h1.both rpcLk.both h2)
 have MK1 : Hid (∀ u V E lo hi, SndX W D V E → WrI (n + 1) u lo hi V E → SndSm (n + 1) D es → Calls Tryz.prog 13 #[V.val, .int .i64 1] u fun e w' => ∃ k : Int, e = .returned (.int .i64 k) ∧ (0 ≤ k ∧ k ≤ 9437185) ∧ Chg (fun g => lo ≤ g ∧ g < hi) u w') := fun u V E lo hi hV hI hs => (markWorld_w n V E lo hi 1 u hI (by omega) (by have := hs.x hV.2; omega)).mono (fun e w' ⟨a, _, c⟩ => ⟨_, a, ⟨wK5_pos _ _, hs.x hV.2⟩, c⟩)
 have MK2 : Hid (∀ u v fs lo hi (k : Int), LsLk rpcLk es fs → LsI rpcC (rpcI (n + 1)) noRpc 87 15 u lo hi v fs → SndSm (n + 1) D es → 0 ≤ k → k ≤ 9437185 → Calls Tryz.prog 14 #[v, .int .i64 k] u fun e w' => ∃ q : Int, e = .returned (.int .i64 q) ∧ 0 ≤ q ∧ Chg (fun g => lo ≤ g ∧ g < hi) u w') := fun u v fs lo hi k hf hL hs h0 h1 => (hL.markR k h0 (by have := hs.l hf; omega)).mono (fun e w' ⟨a, _, c⟩ => ⟨_, a, by omega, c⟩)
 have MK3 : Hid (∀ u K EK (F : Nat → Prop), SndX W (D.sent es) K EK → WrS (nodU (n + 1)) (rpcU (n + 1)) u F K EK → (∀ g, F g → g < u.heap.size) → SndSm (n + 1) D es → Calls Tryz.prog 13 #[K.val, .int .i64 1] u fun e w' => e = .returned (.int .i64 (wK5 (n + 1) 1 EK)) ∧ WrAt (n + 1) w' K (wMk (n + 1) 1 EK) ∧ Chg F u w') := fun u K EK F hK hS hF hs => (markWorld_s n K EK F 1 u hS hF (by omega) (by have := hs.g hK.2; omega)).mono (fun e w' ⟨a, b, c⟩ => ⟨a, b.at (nodU_at _) (rpcU_at _), c⟩)
 have HD1 : Hid (∀ u K EK, SndX W (D.sent es) K EK → WrAt (n + 1) u K (wMk (n + 1) 1 EK) → SndSm (n + 1) D es → Calls Tryz.prog 15 #[K.val, .int .i64 1] u fun e w' => e = .returned (.int .i64 (wK5 (n + 1) 1 EK)) ∧ Below u.heap.size u w') := fun u K EK hK hA hs => heldWorld_w n K EK 1 u hA (by omega) (by have := hs.g hK.2; omega)
 have KP : Hid (∀ E, ¬ wK5 (n + 1) 1 E < 0) := fun E => by have := wK5_pos (n + 1) E; omega
 obtain ⟨cs, csv, csl, cso⟩ := h.cells6
 rw [csv] at SZ1 TO1 ⊢
 generalize SndX W D = LX at *
 generalize SndX W (D.sent es) = LG at *
 generalize SndSm (n + 1) D es = SMP at *
 generalize LsLk rpcLk es = LE at *
 clear h hl TT TL
 have B1 : Hid (Below w.heap.size w (w.alloc (.cells cs.toArray 28))) := bel_nw _ _
 have HIL : Hid ((Tryz.prog.info? 28).map (·.size) = some cs.length) := by show _ = _; rw [csl]; exact (show (Tryz.prog.info? 28).map (·.size) = some 6 by kernel_rfl)
 have Y1 : Hid ((w.alloc (.cells cs.toArray 28)).heap[w.heap.size]? = some (.cells cs.toArray 28 (0, 0))) := MBox.start 28 w _
 have zw : w.heap.size < (w.alloc (.cells cs.toArray 28)).heap.size := by simp
 clear csv csl cso
 go_enter Tryz.func3, Tryz.ntmps3
 go_upto_region 2 with fail
 generalize (w.alloc (.cells cs.toArray 28)) = W0 at *
 have ra := range_of Y1.out
 rw [List.toList_toArray] at ra
 go_wp2_with (refine wpList_load_g2 (by rfl) 28 _ rfl w.heap.size 0 rfl cs _ ra Tryz.underlying28 rfl HIL.out ?_)
 refine (SZ1.out _ B1.out).mono ?_
 rintro e w1 ⟨r, rfl, hr1, hsm, b1⟩
 have SA := hq hsm
 replace Y1 := hq (step_at Y1.out b1)
 replace B1 := hq (Below.and B1.out b1)
 have z1 := b1.size
 clear b1 ra hsm SZ1
 by_cases hr : r < 0
 ·go_wp2
  go_ret
  exact ⟨rfl, B1.out⟩
 have S2 := hq (SZ2.out w1 r B1.out (by omega) hr1 (SA.out (by omega)))
 clear SZ2 SA hr1
 go_wp2_with fail
 refine S2.out.mono ?_
 rintro e w1b ⟨q, rfl, hsm, b1⟩
 have SM := hq hsm
 replace Y1 := hq (step_at Y1.out b1)
 replace B1 := hq (Below.and B1.out b1)
 have z1b := b1.size
 clear b1 hsm S2 hr
 by_cases hr : q < 0
 ·go_wp2
  go_ret
  exact ⟨rfl, B1.out⟩
 replace SM := hq (SM.out (by omega))
 have ra := range_of Y1.out
 rw [List.toList_toArray] at ra
 go_wp2_with (refine wpList_load_g2 (by rfl) 28 _ rfl w.heap.size 0 rfl cs _ ra Tryz.underlying28 rfl HIL.out ?_)
 refine (TO1.out _ B1.out SM.out).mono ?_
 rintro e w2a ⟨M0, E0, rfl, lk0, t0, b2⟩
 have T0 := hq t0
 replace Y1 := hq (step_at Y1.out b2)
 replace B1 := hq (Below.and B1.out b2)
 have zw2a := b2.size
 clear b2 t0 ra
 generalize hv0 : M0.val = v0
 have HV0 := hq hv0
 clear hv0
 go_wp2_with fail
 refine (TO2.out _ B1.out SM.out).mono ?_
 rintro e w2b ⟨y0, f0, rfl, lf0, l0, b3⟩
 replace Y1 := hq (step_at Y1.out b3)
 replace B1 := hq (Below.and B1.out b3)
 replace T0 := hq (T0.out.below b3)
 have zw2b := b3.size
 have CN := hq (SP1.out w2b M0 E0 _ _ y0 f0 _ _ lk0 lf0 T0.out l0 SM.out)
 rw [HV0.out] at CN
 clear b3 l0 lf0 lk0 T0 HV0 M0
 go_wp2_with fail
 refine CN.out.mono ?_
 rintro e w3 ⟨KW, EW, rfl, lkw, tw, b3⟩
 replace Y1 := hq (step_at Y1.out b3)
 replace B1 := hq (Below.and B1.out b3)
 have z3 := b3.size
 have LKW := hq lkw
 clear b3 CN SP1 lkw
 obtain ⟨ws, wsv, wsl, wso⟩ := tw.cells6
 have wsh : Hid ((Tryz.prog.info? 37).map (·.size) = some ws.length) := by show _ = _; rw [wsl]; kernel_rfl
 have wsk : Hid ((Tryz.prog.info? 37).map (·.size) = some ws.toArray.size) := by show _ = _; rw [List.size_toArray]; exact wsh.out
 have NA := newAllS (w := w3) (t := 37) (A := #[.int .i64 0, .slice none 0 0, .slice none 0 0, .slice none 0 0, .slice none 0 0, .slice none 0 0]) (vs := ws) wsl.symm
 have TH : Hid (World.there (w3.alloc (.cells #[.int .i64 0, .slice none 0 0, .slice none 0 0, .slice none 0 0, .slice none 0 0, .slice none 0 0] 37)) w3.heap.size 0 ws.toArray.size) := there_of (heap_alloc_new w3 _) (show 6 = ws.toArray.size by rw [List.size_toArray, wsl])
 have SZws : w3.heap.size + 1 ≤ ((w3.alloc (.cells #[.int .i64 0, .slice none 0 0, .slice none 0 0, .slice none 0 0, .slice none 0 0, .slice none 0 0] 37)).setCells w3.heap.size 0 ws).heap.size := by have := (Chg.setCells (F := fun _ => True) (g := w3.heap.size) (fun _ => trivial) ws 0 _ (Chg.refl _ (w3.alloc (.cells #[.int .i64 0, .slice none 0 0, .slice none 0 0, .slice none 0 0, .slice none 0 0, .slice none 0 0] 37)))).size; simpa using this
 have Xws := hq NA.2
 have wsV := hq wsv
 have NB := hq NA.1
 replace Y1 := hq (step_at Y1.out NB.out)
 replace B1 := hq (Below.and B1.out NB.out)
 rw [wsv]
 clear NA wsv wsl
 go_upto_region 9 with (refine wpList_store_mid rfl 37 _ _ rfl w3.heap.size 0 ws.toArray rfl rfl TH.out wsk.out wso ?_)
 clear TH wso wsk
 generalize (w3.alloc (.cells #[.int .i64 0, .slice none 0 0, .slice none 0 0, .slice none 0 0, .slice none 0 0, .slice none 0 0] 37)).setCells w3.heap.size 0 ws = V4 at *
 have TW := hq tw
 clear tw
 have BV := NB
 clear NB
 have ra := range_of Y1.out
 rw [List.toList_toArray] at ra
 go_wp2_with (refine wpList_load_g2 (by rfl) 28 _ rfl w.heap.size 0 rfl cs _ ra Tryz.underlying28 rfl HIL.out ?_)
 refine (TO1.out _ B1.out SM.out).mono ?_
 rintro e w5 ⟨MX, EX, rfl, lkx, tx, b5⟩
 replace Y1 := hq (step_at Y1.out b5)
 replace B1 := hq (Below.and B1.out b5)
 replace Xws := hq (step_at Xws.out b5)
 replace BV := hq (Below.and BV.out b5)
 have z5 := b5.size
 have LKX := hq lkx
 have XN := hq tx
 clear b5 lkx ra
 obtain ⟨xs, xsv, xsl, xso⟩ := tx.at.cells6
 have xsh : Hid ((Tryz.prog.info? 37).map (·.size) = some xs.length) := by show _ = _; rw [xsl]; kernel_rfl
 have xsk : Hid ((Tryz.prog.info? 37).map (·.size) = some xs.toArray.size) := by show _ = _; rw [List.size_toArray]; exact xsh.out
 have NA := newAllS (w := w5) (t := 37) (A := #[.int .i64 0, .slice none 0 0, .slice none 0 0, .slice none 0 0, .slice none 0 0, .slice none 0 0]) (vs := xs) xsl.symm
 have TH : Hid (World.there (w5.alloc (.cells #[.int .i64 0, .slice none 0 0, .slice none 0 0, .slice none 0 0, .slice none 0 0, .slice none 0 0] 37)) w5.heap.size 0 xs.toArray.size) := there_of (heap_alloc_new w5 _) (show 6 = xs.toArray.size by rw [List.size_toArray, xsl])
 have SZxs : w5.heap.size + 1 ≤ ((w5.alloc (.cells #[.int .i64 0, .slice none 0 0, .slice none 0 0, .slice none 0 0, .slice none 0 0, .slice none 0 0] 37)).setCells w5.heap.size 0 xs).heap.size := by have := (Chg.setCells (F := fun _ => True) (g := w5.heap.size) (fun _ => trivial) xs 0 _ (Chg.refl _ (w5.alloc (.cells #[.int .i64 0, .slice none 0 0, .slice none 0 0, .slice none 0 0, .slice none 0 0, .slice none 0 0] 37)))).size; simpa using this
 have Xxs := hq NA.2
 have xsV := hq xsv
 have NB := hq NA.1
 replace Y1 := hq (step_at Y1.out NB.out)
 replace B1 := hq (Below.and B1.out NB.out)
 replace Xws := hq (step_at Xws.out NB.out)
 replace BV := hq (Below.and BV.out NB.out)
 replace XN := hq (XN.out.below NB.out)
 rw [xsv]
 clear NA xsv xsl
 go_upto_region 10 with (refine wpList_store_mid rfl 37 _ _ rfl w5.heap.size 0 xs.toArray rfl rfl TH.out xsk.out xso ?_)
 clear TH xso xsk
 generalize (w5.alloc (.cells #[.int .i64 0, .slice none 0 0, .slice none 0 0, .slice none 0 0, .slice none 0 0, .slice none 0 0] 37)).setCells w5.heap.size 0 xs = V6 at *
 clear tx NB
 go_wp2_with fail
 refine (TO2.out _ B1.out SM.out).mono ?_
 rintro e w6 ⟨x1, fx, rfl, lfx, lx, b6⟩
 have LFX := hq lfx
 have XL := hq lx
 replace Y1 := hq (step_at Y1.out b6)
 replace B1 := hq (Below.and B1.out b6)
 replace Xws := hq (step_at Xws.out b6)
 replace BV := hq (Below.and BV.out b6)
 replace XN := hq (XN.out.below b6)
 replace Xxs := hq (step_at Xxs.out b6)
 have z6 := b6.size
 clear b6 lfx lx
 go_upto_region 11 with fail
 have rx := range_of Xxs.out
 rw [List.toList_toArray] at rx
 have IP : Hid (Calls Tryz.prog 10 #[.agg xs.toArray, x1] w6 fun e w' => ∃ K EK F, e = .returned K.val ∧ LG K EK ∧ WrS (nodU (n + 1)) (rpcU (n + 1)) w' F K EK ∧ (∀ g, F g → w6.heap.size ≤ g ∧ g < w'.heap.size) ∧ Below w6.heap.size w6 w') := by
  have := IP1.out w6 MX EX _ _ x1 fx _ _ LKX.out LFX.out XN.out XL.out SM.out
  rw [xsV.out] at this
  exact this
 go_wp2_with (refine wpList_load_g2 (by rfl) 37 _ rfl w5.heap.size 0 rfl xs _ rx Tryz.underlying37 rfl xsh.out ?_)
 refine IP.out.mono ?_
 rintro e w7 ⟨KG, EG, F, rfl, lkg, tg, fb, b7⟩
 replace Y1 := hq (step_at Y1.out b7)
 replace B1 := hq (Below.and B1.out b7)
 replace Xws := hq (step_at Xws.out b7)
 replace BV := hq (Below.and BV.out b7)
 replace XN := hq (XN.out.below b7)
 replace Xxs := hq (step_at Xxs.out b7)
 replace XL := hq (XL.out.below (rpcI_k _) b7)
 have z7 := b7.size
 have LKG := hq lkg
 have GN := hq tg
 have FB : Hid (∀ g, F g → w6.heap.size ≤ g ∧ g < w7.heap.size) := fb
 clear b7 lkg rx IP fb
 obtain ⟨gs, gsv, gsl, gso⟩ := (WrSU.at tg).cells6
 have gsh : Hid ((Tryz.prog.info? 37).map (·.size) = some gs.length) := by show _ = _; rw [gsl]; kernel_rfl
 have gsk : Hid ((Tryz.prog.info? 37).map (·.size) = some gs.toArray.size) := by show _ = _; rw [List.size_toArray]; exact gsh.out
 have NA := newAllS (w := w7) (t := 37) (A := #[.int .i64 0, .slice none 0 0, .slice none 0 0, .slice none 0 0, .slice none 0 0, .slice none 0 0]) (vs := gs) gsl.symm
 have TH : Hid (World.there (w7.alloc (.cells #[.int .i64 0, .slice none 0 0, .slice none 0 0, .slice none 0 0, .slice none 0 0, .slice none 0 0] 37)) w7.heap.size 0 gs.toArray.size) := there_of (heap_alloc_new w7 _) (show 6 = gs.toArray.size by rw [List.size_toArray, gsl])
 have SZgs : w7.heap.size + 1 ≤ ((w7.alloc (.cells #[.int .i64 0, .slice none 0 0, .slice none 0 0, .slice none 0 0, .slice none 0 0, .slice none 0 0] 37)).setCells w7.heap.size 0 gs).heap.size := by have := (Chg.setCells (F := fun _ => True) (g := w7.heap.size) (fun _ => trivial) gs 0 _ (Chg.refl _ (w7.alloc (.cells #[.int .i64 0, .slice none 0 0, .slice none 0 0, .slice none 0 0, .slice none 0 0, .slice none 0 0] 37)))).size; simpa using this
 have Xgs := hq NA.2
 have gsV := hq gsv
 have NB := hq NA.1
 replace Y1 := hq (step_at Y1.out NB.out)
 replace B1 := hq (Below.and B1.out NB.out)
 replace Xws := hq (step_at Xws.out NB.out)
 replace BV := hq (Below.and BV.out NB.out)
 replace XN := hq (XN.out.below NB.out)
 replace Xxs := hq (step_at Xxs.out NB.out)
 replace XL := hq (XL.out.below (rpcI_k _) NB.out)
 replace GN := hq (GN.out.below (nodU_k _) (rpcU_k _) NB.out)
 rw [gsv]
 clear NA gsv gsl
 go_upto_region 12 with (refine wpList_store_mid rfl 37 _ _ rfl w7.heap.size 0 gs.toArray rfl rfl TH.out gsk.out gso ?_)
 clear TH gso gsk
 generalize (w7.alloc (.cells #[.int .i64 0, .slice none 0 0, .slice none 0 0, .slice none 0 0, .slice none 0 0, .slice none 0 0] 37)).setCells w7.heap.size 0 gs = V8 at *
 clear tg NB
 have rg := range_of Xgs.out
 rw [List.toList_toArray] at rg
 have rw := range_of Xws.out
 rw [List.toList_toArray] at rw
 have EQ : Hid (Calls Tryz.prog 11 #[.agg gs.toArray, .agg ws.toArray] V8 fun e w' => e = .returned (.bool true) ∧ Below V8.heap.size V8 w') := by
  have := EQ1.out V8 KG EG KW EW LKG.out LKW.out (WrSU.at GN.out) (TW.out.below BV.out)
  rw [gsV.out, wsV.out] at this
  exact this
 go_wp2_with (first | (refine wpList_load_g2 (by rfl) 37 _ rfl w7.heap.size 0 rfl gs _ rg Tryz.underlying37 rfl gsh.out ?_) | (refine wpList_load_g2 (by rfl) 37 _ rfl w3.heap.size 0 rfl ws _ rw Tryz.underlying37 rfl wsh.out ?_))
 refine EQ.out.mono ?_
 rintro e w9 ⟨rfl, b9⟩
 replace Y1 := hq (step_at Y1.out b9)
 replace B1 := hq (Below.and B1.out b9)
 replace Xws := hq (step_at Xws.out b9)
 replace BV := hq (Below.and BV.out b9)
 replace XN := hq (XN.out.below b9)
 replace Xxs := hq (step_at Xxs.out b9)
 replace XL := hq (XL.out.below (rpcI_k _) b9)
 replace GN := hq (GN.out.below (nodU_k _) (rpcU_k _) b9)
 replace Xgs := hq (step_at Xgs.out b9)
 have zb9 := b9.size
 clear b9 rg rw EQ
 go_wp2_with fail
 have KE : Hid (∀ u, Below w9.heap.size w9 u → (fun u : World => u.rangeAt w.heap.size 0 cs ∧ u.rangeAt w5.heap.size 0 xs) u) := fun u hu => ⟨by have := range_of (step_at Y1.out hu); rw [List.toList_toArray] at this; exact this, by have := range_of (step_at Xxs.out hu); rw [List.toList_toArray] at this; exact this⟩
 have RLL : Hid (Below w9.heap.size w9 w9.drew) := (Below.refl _ _).drew
 refine wp_region_held_drew (S := (fun u : World => u.rangeAt w.heap.size 0 cs ∧ u.rangeAt w5.heap.size 0 xs)) (by kernel_rfl) (KE.out _ RLL.out) (fun hH => ?_)
 refine wpAnyH_take (i := 0) (oi := ⟨_, _, _, _, _, _⟩) (v := .agg xs.toArray) rfl (by kernel_rfl) (by kernel_rfl) (by kernel_rfl) (fun _ _ _ h => h) (yieldsIf_load_mid (by kernel_rfl) 37 _ rfl w5.heap.size 0 rfl xs _ (fun _ hu => hu.2) Tryz.underlying37 rfl xsh.out) (by assumption) ?_
 try simp only [Act.put, List.setIfInBounds_toArray, List.set_cons_zero, List.set_cons_succ]
 refine wpAnyH_take (i := 1) (oi := ⟨_, _, _, _, _, _⟩) (v := .agg cs.toArray) rfl (by kernel_rfl) (by kernel_rfl) (by kernel_rfl) (fun _ _ _ h => h) (yieldsIf_load_mid (by kernel_rfl) 28 _ rfl w.heap.size 0 rfl cs _ (fun _ hu => hu.1) Tryz.underlying28 rfl HIL.out) (by assumption) ?_
 try simp only [Act.put, List.setIfInBounds_toArray, List.set_cons_zero, List.set_cons_succ]
 refine wpAnyH_ready (rs := [2]) (by kernel_rfl) (by simp) ?_
 refine AllReadyH.cons (o := ⟨_, _, _, _, _, _⟩) rfl (fun K hK => ?_) AllReadyH.nil
 refine (if_pos (show Region.wanted _ _ = true by kernel_rfl)).mpr ?_
 refine call_by 8 [.tmp 41] #[28] rfl run_toW _ rfl (TO1.out _ (Below.and B1.out RLL.out) SM.out) ?_
 rintro e u2 ⟨M3, E3, rfl, l3, t3, b3⟩
 have T3 := hq t3.at
 have L3 := hq l3
 replace RLL := hq (Below.and RLL.out b3)
 clear b3 t3 l3
 refine ⟨_, rfl, ?_⟩
 refine hK.out _ _ (KE.out _ RLL.out) (fun hH2 => ?_)
 clear hK K hH
 have hH := hH2
 clear hH2
 try simp only [Act.put, List.setIfInBounds_toArray, List.set_cons_zero, List.set_cons_succ]
 have EQ : Hid (Calls Tryz.prog 11 #[.agg xs.toArray, M3.val] u2 fun e w' => e = .returned (.bool true) ∧ Below u2.heap.size u2 w') := by
  have := EQ2.out u2 MX EX M3 E3 LKX.out L3.out (XN.out.below RLL.out).at T3.out
  rw [xsV.out] at this
  exact this
 refine wpAnyH_ready (rs := [3]) (by kernel_rfl) (by simp) ?_
 refine AllReadyH.cons (o := ⟨_, _, _, _, _, _⟩) rfl (fun K hK => ?_) AllReadyH.nil
 refine (if_pos (show Region.wanted _ _ = true by kernel_rfl)).mpr ?_
 refine call_by 11 [.tmp 40, .tmp 42] #[37, 37] rfl run_eqW _ rfl EQ.out ?_
 rintro e wa ⟨rfl, b4⟩
 replace RLL := hq (Below.and RLL.out b4)
 clear b4
 refine ⟨_, rfl, ?_⟩
 refine hK.out _ _ (KE.out _ RLL.out) (fun hH2 => ?_)
 clear hK K hH
 have hH := hH2
 clear hH2
 try simp only [Act.put, List.setIfInBounds_toArray, List.set_cons_zero, List.set_cons_succ]
 refine wpAnyH_take (i := 4) (oi := ⟨_, _, _, _, _, _⟩) (v := ?_) rfl (by kernel_rfl) (by kernel_rfl) (by kernel_rfl) (fun _ _ _ h => h) (Or.inl ⟨by rfl, ?_⟩) (by assumption) ?_
 rotate_left
 ·((intro w hSw; (try dsimp only at hSw); go_simp); (try with_reducible rfl))
 try simp only [Act.put, List.setIfInBounds_toArray, List.set_cons_zero, List.set_cons_succ]
 refine wpAnyH_done (by kernel_rfl) ?_ _
 have ba := RLL.out
 replace Y1 := hq (step_at Y1.out ba)
 replace B1 := hq (Below.and B1.out ba)
 replace Xws := hq (step_at Xws.out ba)
 replace BV := hq (Below.and BV.out ba)
 replace XN := hq (XN.out.below ba)
 replace Xxs := hq (step_at Xxs.out ba)
 replace XL := hq (XL.out.below (rpcI_k _) ba)
 replace GN := hq (GN.out.below (nodU_k _) (rpcU_k _) ba)
 replace Xgs := hq (step_at Xgs.out ba)
 have za := ba.size
 clear ba RLL KE hH EQ L3 T3
 generalize M3.val = v3 at *
 clear M3
 go_wp2_with fail
 refine (TO2.out _ B1.out SM.out).mono ?_
 rintro e wa2 ⟨y3, f3, rfl, lf3, l3, b3⟩
 replace Y1 := hq (step_at Y1.out b3)
 replace B1 := hq (Below.and B1.out b3)
 replace Xws := hq (step_at Xws.out b3)
 replace BV := hq (Below.and BV.out b3)
 replace XN := hq (XN.out.below b3)
 replace Xxs := hq (step_at Xxs.out b3)
 replace XL := hq (XL.out.below (rpcI_k _) b3)
 replace GN := hq (GN.out.below (nodU_k _) (rpcU_k _) b3)
 replace Xgs := hq (step_at Xgs.out b3)
 have za2 := b3.size
 have EQ := hq (EQ3.out wa2 x1 fx y3 f3 LFX.out lf3 XL.out.rat l3.rat)
 clear b3 lf3 l3
 go_wp2_with fail
 refine EQ.out.mono ?_
 rintro e wa3 ⟨rfl, b3⟩
 replace Y1 := hq (step_at Y1.out b3)
 replace B1 := hq (Below.and B1.out b3)
 replace Xws := hq (step_at Xws.out b3)
 replace BV := hq (Below.and BV.out b3)
 replace XN := hq (XN.out.below b3)
 replace Xxs := hq (step_at Xxs.out b3)
 replace XL := hq (XL.out.below (rpcI_k _) b3)
 replace GN := hq (GN.out.below (nodU_k _) (rpcU_k _) b3)
 replace Xgs := hq (step_at Xgs.out b3)
 have za3 := b3.size
 clear b3 EQ
 have rx := range_of Xxs.out
 rw [List.toList_toArray] at rx
 have MK : Hid (Calls Tryz.prog 13 #[.agg xs.toArray, .int .i64 1] wa3 fun e w' => ∃ k : Int, e = .returned (.int .i64 k) ∧ (0 ≤ k ∧ k ≤ 9437185) ∧ Chg (fun g => V4.heap.size ≤ g ∧ g < w5.heap.size) wa3 w') := by
  have := MK1.out wa3 MX EX _ _ LKX.out XN.out SM.out
  rw [xsV.out] at this
  exact this
 go_wp2_with (refine wpList_load_g2 (by rfl) 37 _ rfl w5.heap.size 0 rfl xs _ rx Tryz.underlying37 rfl xsh.out ?_)
 refine MK.out.mono ?_
 rintro e wb ⟨k1, rfl, hk1, gb⟩
 clear XN rx MK
 replace Y1 := hq (row_chg Y1.out gb (fun e => by omega))
 replace B1 := hq (B1.out.trans (gb.below (fun g _ e => by omega) B1.out.size))
 replace Xws := hq (row_chg Xws.out gb (fun e => by omega))
 replace BV := hq (BV.out.trans (gb.below (fun g _ e => by omega) BV.out.size))
 replace Xxs := hq (row_chg Xxs.out gb (fun e => by omega))
 replace XL := hq (XL.out.chg (rpcI_k _) gb (fun g _ _ e => by omega))
 replace GN := hq (GN.out.chg (nodU_k _) (rpcU_k _) gb (fun g hg e => by have := FB.out g hg; omega))
 replace Xgs := hq (row_chg Xgs.out gb (fun e => by omega))
 have zb := gb.size
 clear gb
 have MK := hq (MK2.out wb x1 fx _ _ k1 LFX.out XL.out SM.out hk1.1 hk1.2)
 clear XL hk1
 go_wp2_with fail
 refine MK.out.mono ?_
 rintro e wb2 ⟨k2, rfl, hk2, gb⟩
 obtain ⟨mn, rfl⟩ := Int.eq_ofNat_of_zero_le hk2
 clear MK hk2
 replace Y1 := hq (row_chg Y1.out gb (fun e => by omega))
 replace B1 := hq (B1.out.trans (gb.below (fun g _ e => by omega) B1.out.size))
 replace Xws := hq (row_chg Xws.out gb (fun e => by omega))
 replace BV := hq (BV.out.trans (gb.below (fun g _ e => by omega) BV.out.size))
 replace Xxs := hq (row_chg Xxs.out gb (fun e => by omega))
 replace GN := hq (GN.out.chg (nodU_k _) (rpcU_k _) gb (fun g hg e => by have := FB.out g hg; omega))
 replace Xgs := hq (row_chg Xgs.out gb (fun e => by omega))
 have zb2 := gb.size
 clear gb
 have rg := range_of Xgs.out
 rw [List.toList_toArray] at rg
 have rw := range_of Xws.out
 rw [List.toList_toArray] at rw
 have EQ : Hid (Calls Tryz.prog 11 #[.agg gs.toArray, .agg ws.toArray] wb2 fun e w' => e = .returned (.bool true) ∧ Below wb2.heap.size wb2 w') := by
  have := EQ1.out wb2 KG EG KW EW LKG.out LKW.out (WrSU.at GN.out) (TW.out.below BV.out)
  rw [gsV.out, wsV.out] at this
  exact this
 go_wp2_with (first | (refine wpList_load_g2 (by rfl) 37 _ rfl w7.heap.size 0 rfl gs _ rg Tryz.underlying37 rfl gsh.out ?_) | (refine wpList_load_g2 (by rfl) 37 _ rfl w3.heap.size 0 rfl ws _ rw Tryz.underlying37 rfl wsh.out ?_))
 refine EQ.out.mono ?_
 rintro e wc ⟨rfl, bc⟩
 replace Y1 := hq (step_at Y1.out bc)
 replace B1 := hq (Below.and B1.out bc)
 replace Xws := hq (step_at Xws.out bc)
 replace BV := hq (Below.and BV.out bc)
 replace Xxs := hq (step_at Xxs.out bc)
 replace GN := hq (GN.out.below (nodU_k _) (rpcU_k _) bc)
 replace Xgs := hq (step_at Xgs.out bc)
 have zbc := bc.size
 clear bc rg rw EQ
 have rg := range_of Xgs.out
 rw [List.toList_toArray] at rg
 have MK : Hid (Calls Tryz.prog 13 #[.agg gs.toArray, .int .i64 1] wc fun e w' => e = .returned (.int .i64 (wK5 (n + 1) 1 EG)) ∧ WrAt (n + 1) w' KG (wMk (n + 1) 1 EG) ∧ Chg F wc w') := by
  have := MK3.out wc KG EG F LKG.out GN.out (fun g hg => by have := FB.out g hg; omega) SM.out
  rw [gsV.out] at this
  exact this
 have HDG : Hid (∀ u, WrAt (n + 1) u KG (wMk (n + 1) 1 EG) → Calls Tryz.prog 15 #[.agg gs.toArray, .int .i64 1] u fun e w' => e = .returned (.int .i64 (wK5 (n + 1) 1 EG)) ∧ Below u.heap.size u w') := fun u hu => by
  have := HD1.out u KG EG LKG.out hu SM.out
  rw [gsV.out] at this
  exact this
 have hmg := KP.out EG
 generalize wK5 (n + 1) 1 EG = mg at *
 generalize wMk (n + 1) 1 EG = DM at *
 go_wp2_with (refine wpList_load_g2 (by rfl) 37 _ rfl w7.heap.size 0 rfl gs _ rg Tryz.underlying37 rfl gsh.out ?_)
 refine MK.out.mono ?_
 rintro e wd ⟨rfl, gm, gd⟩
 clear GN rg MK
 replace Y1 := hq (row_chg Y1.out gd (fun e => by have := FB.out _ e; omega))
 replace B1 := hq (B1.out.trans (gd.below (fun g _ e => by have := FB.out _ e; omega) B1.out.size))
 replace Xws := hq (row_chg Xws.out gd (fun e => by have := FB.out _ e; omega))
 replace BV := hq (BV.out.trans (gd.below (fun g _ e => by have := FB.out _ e; omega) BV.out.size))
 replace Xxs := hq (row_chg Xxs.out gd (fun e => by have := FB.out _ e; omega))
 replace Xgs := hq (row_chg Xgs.out gd (fun e => by have := FB.out _ e; omega))
 have zd := gd.size
 have GM := hq gm
 clear gd gm
 have hmm : (mg != mg) = false := by simp
 have rg := range_of Xgs.out
 rw [List.toList_toArray] at rg
 have HE := hq (HDG.out wd GM.out)
 go_wp2_with (refine wpList_load_g2 (by rfl) 37 _ rfl w7.heap.size 0 rfl gs _ rg Tryz.underlying37 rfl gsh.out ?_)
 refine HE.out.mono ?_
 rintro e we ⟨rfl, be⟩
 replace Y1 := hq (step_at Y1.out be)
 replace B1 := hq (Below.and B1.out be)
 replace Xws := hq (step_at Xws.out be)
 replace BV := hq (Below.and BV.out be)
 replace Xxs := hq (step_at Xxs.out be)
 replace Xgs := hq (step_at Xgs.out be)
 replace GM := hq (GM.out.below be)
 have zbe := be.size
 clear be rg HE
 have ra := range_of Y1.out
 rw [List.toList_toArray] at ra
 go_wp2_with (refine wpList_load_g2 (by rfl) 28 _ rfl w.heap.size 0 rfl cs _ ra Tryz.underlying28 rfl HIL.out ?_)
 refine (TO1.out _ B1.out SM.out).mono ?_
 rintro e wfa ⟨M0, E0, rfl, lk0, t0, b2⟩
 have T0 := hq t0
 replace Y1 := hq (step_at Y1.out b2)
 replace B1 := hq (Below.and B1.out b2)
 replace Xws := hq (step_at Xws.out b2)
 replace BV := hq (Below.and BV.out b2)
 replace Xxs := hq (step_at Xxs.out b2)
 replace Xgs := hq (step_at Xgs.out b2)
 replace GM := hq (GM.out.below b2)
 have zwfa := b2.size
 clear b2 t0 ra
 generalize hv0 : M0.val = v0
 have HV0 := hq hv0
 clear hv0
 go_wp2_with fail
 refine (TO2.out _ B1.out SM.out).mono ?_
 rintro e wfb ⟨y0, f0, rfl, lf0, l0, b3⟩
 replace Y1 := hq (step_at Y1.out b3)
 replace B1 := hq (Below.and B1.out b3)
 replace Xws := hq (step_at Xws.out b3)
 replace BV := hq (Below.and BV.out b3)
 replace Xxs := hq (step_at Xxs.out b3)
 replace Xgs := hq (step_at Xgs.out b3)
 replace GM := hq (GM.out.below b3)
 replace T0 := hq (T0.out.below b3)
 have zwfb := b3.size
 have CN := hq (IP1.out wfb M0 E0 _ _ y0 f0 _ _ lk0 lf0 T0.out l0 SM.out)
 rw [HV0.out] at CN
 clear b3 l0 lf0 lk0 T0 HV0 M0
 go_wp2_with fail
 refine CN.out.mono ?_
 rintro e wg ⟨KH, EH, F2, rfl, lkk, tk, fb2, bg⟩
 replace Y1 := hq (step_at Y1.out bg)
 replace B1 := hq (Below.and B1.out bg)
 replace Xws := hq (step_at Xws.out bg)
 replace BV := hq (Below.and BV.out bg)
 replace Xxs := hq (step_at Xxs.out bg)
 replace Xgs := hq (step_at Xgs.out bg)
 replace GM := hq (GM.out.below bg)
 have zg := bg.size
 have LKH := hq lkk
 have HN := hq tk
 clear bg lkk CN fb2
 obtain ⟨hs, hsv, hsl, hso⟩ := (WrSU.at tk).cells6
 have hsh : Hid ((Tryz.prog.info? 37).map (·.size) = some hs.length) := by show _ = _; rw [hsl]; kernel_rfl
 have hsk : Hid ((Tryz.prog.info? 37).map (·.size) = some hs.toArray.size) := by show _ = _; rw [List.size_toArray]; exact hsh.out
 have NA := newAllS (w := wg) (t := 37) (A := #[.int .i64 0, .slice none 0 0, .slice none 0 0, .slice none 0 0, .slice none 0 0, .slice none 0 0]) (vs := hs) hsl.symm
 have TH : Hid (World.there (wg.alloc (.cells #[.int .i64 0, .slice none 0 0, .slice none 0 0, .slice none 0 0, .slice none 0 0, .slice none 0 0] 37)) wg.heap.size 0 hs.toArray.size) := there_of (heap_alloc_new wg _) (show 6 = hs.toArray.size by rw [List.size_toArray, hsl])
 have SZhs : wg.heap.size + 1 ≤ ((wg.alloc (.cells #[.int .i64 0, .slice none 0 0, .slice none 0 0, .slice none 0 0, .slice none 0 0, .slice none 0 0] 37)).setCells wg.heap.size 0 hs).heap.size := by have := (Chg.setCells (F := fun _ => True) (g := wg.heap.size) (fun _ => trivial) hs 0 _ (Chg.refl _ (wg.alloc (.cells #[.int .i64 0, .slice none 0 0, .slice none 0 0, .slice none 0 0, .slice none 0 0, .slice none 0 0] 37)))).size; simpa using this
 have Xhs := hq NA.2
 have hsV := hq hsv
 have NB := hq NA.1
 replace Y1 := hq (step_at Y1.out NB.out)
 replace B1 := hq (Below.and B1.out NB.out)
 replace Xws := hq (step_at Xws.out NB.out)
 replace BV := hq (Below.and BV.out NB.out)
 replace Xxs := hq (step_at Xxs.out NB.out)
 replace Xgs := hq (step_at Xgs.out NB.out)
 replace GM := hq (GM.out.below NB.out)
 replace HN := hq (HN.out.below (nodU_k _) (rpcU_k _) NB.out)
 rw [hsv]
 clear NA hsv hsl
 go_upto_region 32 with (refine wpList_store_mid rfl 37 _ _ rfl wg.heap.size 0 hs.toArray rfl rfl TH.out hsk.out hso ?_)
 clear TH hso hsk
 generalize (wg.alloc (.cells #[.int .i64 0, .slice none 0 0, .slice none 0 0, .slice none 0 0, .slice none 0 0, .slice none 0 0] 37)).setCells wg.heap.size 0 hs = Vh at *
 clear tk NB
 have rg := range_of Xhs.out
 rw [List.toList_toArray] at rg
 have rw := range_of Xws.out
 rw [List.toList_toArray] at rw
 have EQ : Hid (Calls Tryz.prog 11 #[.agg hs.toArray, .agg ws.toArray] Vh fun e w' => e = .returned (.bool true) ∧ Below Vh.heap.size Vh w') := by
  have := EQ1.out Vh KH EH KW EW LKH.out LKW.out (WrSU.at HN.out) (TW.out.below BV.out)
  rw [hsV.out, wsV.out] at this
  exact this
 go_wp2_with (first | (refine wpList_load_g2 (by rfl) 37 _ rfl wg.heap.size 0 rfl hs _ rg Tryz.underlying37 rfl hsh.out ?_) | (refine wpList_load_g2 (by rfl) 37 _ rfl w3.heap.size 0 rfl ws _ rw Tryz.underlying37 rfl wsh.out ?_))
 refine EQ.out.mono ?_
 rintro e wi ⟨rfl, bi⟩
 replace Y1 := hq (step_at Y1.out bi)
 replace B1 := hq (Below.and B1.out bi)
 replace Xws := hq (step_at Xws.out bi)
 replace BV := hq (Below.and BV.out bi)
 replace Xxs := hq (step_at Xxs.out bi)
 replace Xgs := hq (step_at Xgs.out bi)
 replace GM := hq (GM.out.below bi)
 replace HN := hq (HN.out.below (nodU_k _) (rpcU_k _) bi)
 replace Xhs := hq (step_at Xhs.out bi)
 have zbi := bi.size
 clear bi rg rw EQ
 have rg := range_of Xgs.out
 rw [List.toList_toArray] at rg
 have HE := hq (HDG.out wi GM.out)
 go_wp2_with (refine wpList_load_g2 (by rfl) 37 _ rfl w7.heap.size 0 rfl gs _ rg Tryz.underlying37 rfl gsh.out ?_)
 refine HE.out.mono ?_
 rintro e wj ⟨rfl, bj⟩
 replace Y1 := hq (step_at Y1.out bj)
 replace B1 := hq (Below.and B1.out bj)
 replace Xws := hq (step_at Xws.out bj)
 replace BV := hq (Below.and BV.out bj)
 replace Xxs := hq (step_at Xxs.out bj)
 replace Xgs := hq (step_at Xgs.out bj)
 replace GM := hq (GM.out.below bj)
 replace HN := hq (HN.out.below (nodU_k _) (rpcU_k _) bj)
 replace Xhs := hq (step_at Xhs.out bj)
 have zbj := bj.size
 clear bj rg HE
 go_wp2
 go_ret
 exact ⟨rfl, B1.out⟩
end
end Go.Proofs.YtkcaelfkcepdkaaGreat
