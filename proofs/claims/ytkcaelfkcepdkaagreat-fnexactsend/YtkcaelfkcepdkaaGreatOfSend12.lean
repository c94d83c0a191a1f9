/-
  A world in memory: the laws' own functions that measure and compare it.
  Lists of structs: copied out of the law's own kind.
  toWorld: a world copied out of the law's own kind owns its memory.
-/
import Derived.Test.YtkcaelfkcepdkaaGreatOfSend7
import Derived.Test.YtkcaelfkcepdkaaGreatOfSend11
import Derived.Test.YtkcaelfkcepdkaaGreatOfSend2
import Derived.Test.YtkcaelfkcepdkaaGreatOfSend4
namespace Go.Proofs.YtkcaelfkcepdkaaGreat
set_option maxRecDepth 100000
set_option maxHeartbeats 8000000
section
open Go.RowKit

structure WrV where
 sz : Int
 nv : Value
 rv : Value
 cv : Value
 av : Value
 lv : Value
abbrev WrV.val (W : WrV) : Value := .agg #[.int .i64 W.sz, W.nv, W.rv, W.cv, W.av, W.lv]
structure Wd where
 ns : List NodE
 rs : List RpcE
 cs : List CmdE
 ds : DL
 ls : List LedE
def WrAt (n : Nat) (w : World) (W : WrV) (D : Wd) : Prop :=
 LsAt nodC (nodAt n) w W.nv D.ns ∧ LsAt rpcC (rpcAt n) w W.rv D.rs ∧ LsAt cmdC noAt w W.cv D.cs ∧ Row w W.av D.ds.length (flatD D.ds) ∧ LsAt ledC noAt w W.lv D.ls
theorem nodAt_b (n : Nat) : ∀ w u e, nodAt n w e → Below w.heap.size w u → nodAt n u e := fun _ _ _ h hb => NodAt.below h hb
theorem rpcAt_b (n : Nat) : ∀ w u e, rpcAt n w e → Below w.heap.size w u → rpcAt n u e := fun _ _ _ h hb => RpcAt.below h hb
theorem noAt_b {ε : Type} : ∀ (w u : World) (e : ε), noAt w e → Below w.heap.size w u → noAt u e := fun _ _ _ _ _ => trivial
theorem WrAt.below {n : Nat} {w u : World} {W : WrV} {D : Wd} (h : WrAt n w W D) (hb : Below w.heap.size w u) : WrAt n u W D :=
 ⟨h.1.below (nodAt_b n) hb, h.2.1.below (rpcAt_b n) hb, h.2.2.1.below noAt_b hb, h.2.2.2.1.below hb, h.2.2.2.2.below noAt_b hb⟩
structure Wd.small (n : Nat) (D : Wd) : Prop where
 n1 : ∀ e ∈ D.ns, e.2.small n
 r1 : ∀ e ∈ D.rs, e.2.small n
 n : D.ns.length ≤ 1048576
 r : D.rs.length ≤ 1048576
 c : D.cs.length ≤ 1048576
 d : D.ds.length ≤ 1048576
 l : D.ls.length ≤ 1048576
structure Wd.like (D E : Wd) : Prop where
 n : LsLk nodLk D.ns E.ns
 r : LsLk rpcLk D.rs E.rs
 c : D.cs = E.cs
 d : D.ds = E.ds
 l : D.ls = E.ls
def Wd.tot (n : Nat) (D : Wd) : Nat := D.ns.length + sumE (nodN n) D.ns D.ns.length + D.rs.length + sumE (rpcN n) D.rs D.rs.length + D.cs.length + D.ds.length + D.ls.length
theorem LsLk.eq {ε : Type} {es fs : List ε} (h : LsLk Eq es fs) : es = fs := List.ext_getElem h.1 h.2
theorem LsLk.refl {ε : Type} {lk : ε → ε → Prop} (hr : ∀ e, lk e e) (es : List ε) : LsLk lk es es := ⟨rfl, fun _ _ _ => hr _⟩
theorem LsLk.both {ε : Type} {lk : ε → ε → Prop} (hb : ∀ e f g, lk e f → lk e g → lk f g) {es fs gs : List ε} (h : LsLk lk es fs) (k : LsLk lk es gs) : LsLk lk fs gs :=
 ⟨h.1.symm.trans k.1, fun i h1 h2 => hb _ _ _ (h.2 i (by have := h.1; omega) h1) (k.2 i (by have := h.1; omega) h2)⟩
theorem nodLk.both (e f g : NodE) (h : nodLk e f) (k : nodLk e g) : nodLk f g := by
 obtain ⟨⟨a1, a2, a3, a4, a5, a6, a7⟩, a8⟩ := h
 obtain ⟨⟨b1, b2, b3, b4, b5, b6, b7⟩, b8⟩ := k
 exact ⟨⟨a1.symm.trans b1, a2.symm.trans b2, a3.symm.trans b3, a4.symm.trans b4, a5.symm.trans b5, a6.symm.trans b6, a7.symm.trans b7⟩, a8.symm.trans b8⟩
theorem rpcLk.both (e f g : RpcE) (h : rpcLk e f) (k : rpcLk e g) : rpcLk f g := by
 obtain ⟨⟨a1, a2, a3, a4, a5, a6, a7, a9⟩, a8⟩ := h
 obtain ⟨⟨b1, b2, b3, b4, b5, b6, b7, b9⟩, b8⟩ := k
 exact ⟨⟨a1.symm.trans b1, a2.symm.trans b2, a3.symm.trans b3, a4.symm.trans b4, a5.symm.trans b5, a6.symm.trans b6, a7.symm.trans b7, a9.symm.trans b9⟩, a8.symm.trans b8⟩
theorem Wd.like.both {D E F : Wd} (h : D.like E) (k : D.like F) : E.like F := ⟨h.n.both nodLk.both k.n, h.r.both rpcLk.both k.r, h.c.symm.trans k.c, h.d.symm.trans k.d, h.l.symm.trans k.l⟩
theorem Wd.small.like {n : Nat} {D E : Wd} (h : D.small n) (k : D.like E) : E.small n := by
 refine ⟨fun e he => ?_, fun e he => ?_, k.n.1 ▸ h.n, k.r.1 ▸ h.r, k.c ▸ h.c, k.d ▸ h.d, k.l ▸ h.l⟩
 ·obtain ⟨i, hi, rfl⟩ := List.getElem_of_mem he
  have hi' : i < D.ns.length := by have := k.n.1; omega
  rw [← (k.n.2 i hi' hi).2]
  exact h.n1 _ (List.getElem_mem hi')
 ·obtain ⟨i, hi, rfl⟩ := List.getElem_of_mem he
  have hi' : i < D.rs.length := by have := k.r.1; omega
  rw [← (k.r.2 i hi' hi).2]
  exact h.r1 _ (List.getElem_mem hi')
theorem LsAt.len {ε : Type} {cs : ε → List Value} {At : World → ε → Prop} {w : World} {v : Value} {es : List ε} (h : LsAt cs At w v es) : ∃ (a : Option Addr) (cap : Nat), v = .slice a es.length cap ∧ es.length ≤ maxLen := by
 obtain ⟨a, _, _, cap, h1, h2, h3, _⟩ := h.1
 exact ⟨a, cap, h1, Nat.le_trans h2 h3⟩

theorem szWorld_n (n : Nat) (W : WrV) (D : Wd) (w : World) (h : WrAt n w W D) :
  Calls Tryz.prog 5 #[W.val, .int .i64 1048576] w fun e w' => ∃ r : Int, e = .returned (.int .i64 r) ∧ r ≤ 1048576 ∧ (¬ r < 0 → D.small n ∧ r + (D.tot n : Nat) ≤ 1048576) ∧ Below w.heap.size w w' := by
 obtain ⟨sz, nv, rv, cv, av, lv⟩ := W
 obtain ⟨q1, q2, q3, q4, q5⟩ := h
 obtain ⟨na, nc, hnv, _⟩ := q1.len
 obtain ⟨ra, rc, hrv, _⟩ := q2.len
 obtain ⟨ca, cc, hcv, hlc⟩ := q3.len
 obtain ⟨da, dc, hav, hld⟩ := q4.len
 obtain ⟨la, lc, hlv, hll⟩ := q5.len
 simp only at hnv hrv hcv hav hlv
 subst hnv hrv hcv hav hlv
 have S1 := hq (fun u (L : Int) (hu : Below w.heap.size w u) (a : 0 ≤ L) (b : L ≤ 1048576) => szNodeS_t n _ D.ns L u (q1.below (nodAt_b n) hu) a b)
 have S2 := hq (fun u (L : Int) (hu : Below w.heap.size w u) (a : 0 ≤ L) (b : L ≤ 1048576) => szRpcS_t n _ D.rs L u (q2.below (rpcAt_b n) hu) a b)
 have S3 := hq (fun u (L : Int) (a : 0 ≤ L) (b : L ≤ 1048576) => szCmdS_any ca D.cs.length cc L hlc a b u)
 have S4 := hq (fun u (L : Int) (a : 0 ≤ L) (b : L ≤ 1048576) => szDoneS_any da D.ds.length dc L hld a b u)
 have S5 := hq (fun u (L : Int) (a : 0 ≤ L) (b : L ≤ 1048576) => szLeadS_any la D.ls.length lc L hll a b u)
 have FIN : Hid (∀ r1 r2 r3 : Int, r1 + D.ns.length + (sumE (nodN n) D.ns D.ns.length : Nat) ≤ 1048576 → 0 ≤ r1 → r2 + D.rs.length + (sumE (rpcN n) D.rs D.rs.length : Nat) ≤ r1 → 0 ≤ r3 → r3 = r2 - D.cs.length - D.ds.length - D.ls.length → D.small n ∧ r3 + (D.tot n : Nat) ≤ 1048576) := fun r1 r2 r3 a b c d e =>
  ⟨⟨fun x hx => Nd.small_all (by have := sumE_ge (nodN n) D.ns x hx; unfold nodN at *; omega), fun x hx => Rd.small_all (by have := sumE_ge (rpcN n) D.rs x hx; unfold rpcN at *; omega), by omega, by omega, by omega, by omega, by omega⟩, by unfold Wd.tot; omega⟩
 clear q1 q2 q3 q4 q5 hlc hld hll
 generalize D.small n = SM at *
 generalize D.tot n = tt at *
 generalize (sumE (nodN n) D.ns D.ns.length : Nat) = sn at *
 generalize (sumE (rpcN n) D.rs D.rs.length : Nat) = sr at *
 generalize D.ns.length = ln at *
 generalize D.rs.length = lr at *
 generalize D.cs.length = lk at *
 generalize D.ds.length = ld at *
 generalize D.ls.length = ll at *
 have N1 : Hid (MBox 28 (w.alloc (.cells #[.int .i64 sz, .slice na ln nc, .slice ra lr rc, .slice ca lk cc, .slice da ld dc, .slice la ll lc] 28)) w.heap.size #[.int .i64 sz, .slice na ln nc, .slice ra lr rc, .slice ca lk cc, .slice da ld dc, .slice la ll lc]) := MBox.start _ w _
 have B1 : Hid (Below w.heap.size w (w.alloc (.cells #[.int .i64 sz, .slice na ln nc, .slice ra lr rc, .slice ca lk cc, .slice da ld dc, .slice la ll lc] 28))) := bel_nw _ _
 have c1 := N1.out.cells
 show Calls Tryz.prog 5 #[.agg #[.int .i64 sz, .slice na ln nc, .slice ra lr rc, .slice ca lk cc, .slice da ld dc, .slice la ll lc], .int .i64 1048576] w _
 go_enter Tryz.func5, Tryz.ntmps5
 go_wp2_with fail
 generalize w.alloc (.cells #[.int .i64 sz, .slice na ln nc, .slice ra lr rc, .slice ca lk cc, .slice da ld dc, .slice la ll lc] 28) = W at *
 refine (S1.out _ 1048576 B1.out (by omega) (by omega)).mono ?_
 rintro e w1 ⟨r1, rfl, t1, t2, b1⟩
 replace B1 := hq (Below.and B1.out b1)
 replace N1 := hq (N1.out.step b1)
 have T1 := hq t2
 clear b1 c1 t2
 have c1 := N1.out.cells
 by_cases p1 : r1 < 0
 ·go_wp2
  go_ret
  exact ⟨_, rfl, by omega, fun h => by omega, B1.out⟩
 go_wp2_with fail
 refine (S2.out _ r1 B1.out (by omega) (by omega)).mono ?_
 rintro e w2 ⟨r2, rfl, t3, t2, b2⟩
 replace B1 := hq (Below.and B1.out b2)
 replace N1 := hq (N1.out.step b2)
 have T2 := hq t2
 clear b2 c1 t2
 have c1 := N1.out.cells
 by_cases p2 : r2 < 0
 ·go_wp2
  go_ret
  exact ⟨_, rfl, by omega, fun h => by omega, B1.out⟩
 go_wp2_with fail
 refine (S3.out _ r2 (by omega) (by omega)).mono ?_
 rintro e w3 ⟨rfl, rfl⟩
 by_cases p3 : (lk : Int) ≤ r2
 ·rw [if_pos p3]
  go_wp2_with fail
  refine (S4.out _ (r2 - lk) (by omega) (by omega)).mono ?_
  rintro e w4 ⟨rfl, rfl⟩
  by_cases p4 : (ld : Int) ≤ r2 - lk
  ·rw [if_pos p4]
   go_wp2_with fail
   refine (S5.out _ (r2 - lk - ld) (by omega) (by omega)).mono ?_
   rintro e w5 ⟨rfl, rfl⟩
   by_cases p5 : (ll : Int) ≤ r2 - lk - ld
   ·rw [if_pos p5]
    go_wp2
    go_ret
    exact ⟨_, rfl, by omega, fun _ => FIN.out r1 r2 _ (T1.out p1) (by omega) (T2.out p2) (by omega) rfl, B1.out⟩
   ·rw [if_neg p5]
    go_wp2
    go_ret
    exact ⟨_, rfl, by omega, fun h => by omega, B1.out⟩
  ·rw [if_neg p4]
   go_wp2
   go_ret
   exact ⟨_, rfl, by omega, fun h => by omega, B1.out⟩
 ·rw [if_neg p3]
  go_wp2
  go_ret
  exact ⟨_, rfl, by omega, fun h => by omega, B1.out⟩
theorem eqWorld_t (n : Nat) (W V : WrV) (D E : Wd) (w : World) (hs : W.sz = V.sz) (hl : D.like E) (h : WrAt n w W D) (h2 : WrAt n w V E) :
  Calls Tryz.prog 11 #[W.val, V.val] w fun e w' => e = .returned (.bool true) ∧ Below w.heap.size w w' := by
 obtain ⟨sz, nv, rv, cv, av, lv⟩ := W
 obtain ⟨sz2, nv2, rv2, cv2, av2, lv2⟩ := V
 simp only at hs
 subst hs
 obtain ⟨q1, q2, q3, q4, q5⟩ := h
 obtain ⟨k1, k2, k3, k4, k5⟩ := h2
 have S1 := hq (fun u (hu : Below w.heap.size w u) => eqNodeS_t n nv nv2 D.ns E.ns u (q1.below (nodAt_b n) hu) (k1.below (nodAt_b n) hu) hl.n)
 have S2 := hq (fun u (hu : Below w.heap.size w u) => eqRpcS_t n rv rv2 D.rs E.rs u (q2.below (rpcAt_b n) hu) (k2.below (rpcAt_b n) hu) hl.r)
 have S3 := hq (fun u (hu : Below w.heap.size w u) => eqCmdS_t cv cv2 D.cs E.cs u (q3.below noAt_b hu) (k3.below noAt_b hu) (by rw [hl.c]; exact LsLk.refl (fun _ => rfl) _))
 have S4 := hq (fun u (hu : Below w.heap.size w u) => eqDoneS_any av av2 D.ds E.ds u (q4.below hu) (k4.below hu))
 have S5 := hq (fun u (hu : Below w.heap.size w u) => eqLeadS_t lv lv2 D.ls E.ls u (q5.below noAt_b hu) (k5.below noAt_b hu) (by rw [hl.l]; exact LsLk.refl (fun _ => rfl) _))
 have ED : Hid (decide (D.ds = E.ds) = true) := decide_eq_true hl.d
 obtain ⟨na, nc, hn, _⟩ := q1.len
 obtain ⟨na2, nc2, hn2, _⟩ := k1.len
 obtain ⟨ra, rc, hr, _⟩ := q2.len
 obtain ⟨ra2, rc2, hr2, _⟩ := k2.len
 obtain ⟨ca, cc, hc, _⟩ := q3.len
 obtain ⟨ca2, cc2, hc2, _⟩ := k3.len
 obtain ⟨da, dc, hd, _⟩ := q4.len
 obtain ⟨da2, dc2, hd2, _⟩ := k4.len
 obtain ⟨la, lc, hll, _⟩ := q5.len
 obtain ⟨la2, lc2, hll2, _⟩ := k5.len
 simp only at hn hn2 hr hr2 hc hc2 hd hd2 hll hll2
 subst hn hn2 hr hr2 hc hc2 hd hd2 hll hll2
 clear q1 q2 q3 q4 q5 k1 k2 k3 k4 k5 hl
 have N1 := hq ((MBox.start 37 w #[.int .i64 sz, .slice na D.ns.length nc, .slice ra D.rs.length rc, .slice ca D.cs.length cc, .slice da D.ds.length dc, .slice la D.ls.length lc]).step (bel_nw _ (.cells #[.int .i64 sz, .slice na2 E.ns.length nc2, .slice ra2 E.rs.length rc2, .slice ca2 E.cs.length cc2, .slice da2 E.ds.length dc2, .slice la2 E.ls.length lc2] 37)))
 have N2 := hq (MBox.start 37 (w.alloc (.cells #[.int .i64 sz, .slice na D.ns.length nc, .slice ra D.rs.length rc, .slice ca D.cs.length cc, .slice da D.ds.length dc, .slice la D.ls.length lc] 37)) #[.int .i64 sz, .slice na2 E.ns.length nc2, .slice ra2 E.rs.length rc2, .slice ca2 E.cs.length cc2, .slice da2 E.ds.length dc2, .slice la2 E.ls.length lc2])
 have B1 : Hid (Below w.heap.size w ((w.alloc (.cells #[.int .i64 sz, .slice na D.ns.length nc, .slice ra D.rs.length rc, .slice ca D.cs.length cc, .slice da D.ds.length dc, .slice la D.ls.length lc] 37)).alloc (.cells #[.int .i64 sz, .slice na2 E.ns.length nc2, .slice ra2 E.rs.length rc2, .slice ca2 E.cs.length cc2, .slice da2 E.ds.length dc2, .slice la2 E.ls.length lc2] 37))) := Below.and (bel_nw _ _) (bel_nw _ _)
 have c1 := N1.out.cells
 have c2 := N2.out.cells
 simp only [World.size_alloc] at c2 N2
 show Calls Tryz.prog 11 #[.agg #[.int .i64 sz, .slice na D.ns.length nc, .slice ra D.rs.length rc, .slice ca D.cs.length cc, .slice da D.ds.length dc, .slice la D.ls.length lc], .agg #[.int .i64 sz, .slice na2 E.ns.length nc2, .slice ra2 E.rs.length rc2, .slice ca2 E.cs.length cc2, .slice da2 E.ds.length dc2, .slice la2 E.ls.length lc2]] w _
 go_enter Tryz.func11, Tryz.ntmps11
 go_wp2_with fail
 generalize ((w.alloc (.cells #[.int .i64 sz, .slice na D.ns.length nc, .slice ra D.rs.length rc, .slice ca D.cs.length cc, .slice da D.ds.length dc, .slice la D.ls.length lc] 37)).alloc (.cells #[.int .i64 sz, .slice na2 E.ns.length nc2, .slice ra2 E.rs.length rc2, .slice ca2 E.cs.length cc2, .slice da2 E.ds.length dc2, .slice la2 E.ls.length lc2] 37)) = W at *
 refine (S1.out _ B1.out).mono ?_
 rintro e w1 ⟨rfl, b1⟩
 replace B1 := hq (Below.and B1.out b1)
 replace N1 := hq (N1.out.step b1)
 replace N2 := hq (N2.out.step b1)
 clear b1 c1 c2
 have c1 := N1.out.cells
 have c2 := N2.out.cells
 go_wp2_with fail
 refine (S2.out _ B1.out).mono ?_
 rintro e w2 ⟨rfl, b1⟩
 replace B1 := hq (Below.and B1.out b1)
 replace N1 := hq (N1.out.step b1)
 replace N2 := hq (N2.out.step b1)
 clear b1 c1 c2
 have c1 := N1.out.cells
 have c2 := N2.out.cells
 go_wp2_with fail
 refine (S3.out _ B1.out).mono ?_
 rintro e w3 ⟨rfl, b1⟩
 replace B1 := hq (Below.and B1.out b1)
 replace N1 := hq (N1.out.step b1)
 replace N2 := hq (N2.out.step b1)
 clear b1 c1 c2
 have c1 := N1.out.cells
 have c2 := N2.out.cells
 go_wp2_with fail
 refine (S4.out _ B1.out).mono ?_
 rintro e w4 ⟨rfl, b1⟩
 rw [ED.out]
 replace B1 := hq (Below.and B1.out b1)
 replace N1 := hq (N1.out.step b1)
 replace N2 := hq (N2.out.step b1)
 clear b1 c1 c2
 have c1 := N1.out.cells
 have c2 := N2.out.cells
 go_wp2_with fail
 refine (S5.out _ B1.out).mono ?_
 rintro e w5 ⟨rfl, b1⟩
 replace B1 := hq (Below.and B1.out b1)
 replace N1 := hq (N1.out.step b1)
 replace N2 := hq (N2.out.step b1)
 clear b1 c1 c2
 go_wp2
 go_ret
 exact ⟨rfl, B1.out⟩
end
section
open Go.RowKit

theorem toCmdS_own (v : Value) (es : List CmdE) (w : World) (h : LsAt cmdC noAt w v es) (hn : es.length ≤ 1048576) :
  Calls Tryz.prog 30 #[v] w fun e w' => ∃ (v' : Value) (fs : List CmdE), e = .returned v' ∧ LsLk Eq es fs ∧ w'.ownsRow w.heap.size 117 5 v' fs.length (fs.map cmdC).flatten ∧ Below w.heap.size w w' := by
 obtain ⟨a, b, off, cap, rfl, hcap, hmax, ha, rg⟩ := h.parts (K := 5) (fun _ => rfl)
 obtain ⟨i0, hi, hz0, hz1, hz2⟩ := info_parts (show (Tryz.prog.info? 117).map (fun i => (i.zero, i.size, i.bytes)) = some (some (.agg cmdZ.toArray), 5, 40) by kernel_rfl)
 unfold maxLen at hmax
 have RG := hq rg
 have HA := hq ha
 clear h rg ha
 go_enter Tryz.func30, Tryz.ntmps30
 go_wp2_with (at_make; refine wpList_make_full _ rfl _ _ 33 rfl w.heap.size 117 i0 _ 5 Tryz.underlying33 hi hz0 hz1 .i64 .i64 _ _ es.length rfl rfl rfl rfl ?c1 ?c2 ?c3 ?_)
 case c1 => rw [hz2]; omega
 case c2 => unfold maxLen; omega
 case c3 => exact Nat.le_refl _
 intro w0 hown0 hgrow0
 have B0 := hq ((Below.refl w.heap.size w).grown hgrow0 (Nat.le_refl _) (fun k hk => by cases hk))
 have O0 : Hid (w0.ownsRow w.heap.size 117 5 (.slice (some ⟨w.heap.size, 0, none⟩) es.length es.length) es.length (List.replicate es.length cmdZ).flatten) := by
  show World.ownsRow _ _ _ _ _ _ _
  rw [← made_flat cmdZ 5 rfl (by decide) es.length]
  exact hown0
 have H0 : Hid (w.heap.size < w0.heap.size) := by
  obtain ⟨_, h2⟩ := O0.out
  rcases h2 with ⟨h2, _⟩ | ⟨g, _, cur, hv, _, hg, _⟩
  ·cases h2
  ·simp only [Value.slice.injEq, Option.some.injEq, Addr.mk.injEq, true_and, and_true] at hv
   rw [hv.1]
   exact (Array.getElem?_eq_some_iff.1 hg).1
 clear hgrow0 hown0 hi hz0 hz1 hz2
 go_wp2
 go_loopw [4] (fun i wr => ∃ (k : Nat) (fs : List CmdE), k ≤ es.length ∧ i = .int .i64 k ∧ Hid (LsLk Eq (es.take k) fs) ∧ Hid (wr.ownsRow w.heap.size 117 5 (.slice (some ⟨w.heap.size, 0, none⟩) es.length es.length) es.length (fs.map cmdC ++ List.replicate (es.length - k) cmdZ).flatten) ∧ Hid (Below w.heap.size w wr) ∧ Hid (w.heap.size < wr.heap.size))
  (fun i _ => es.length - (intOf i).toNat)
 case atStart => exact ⟨0, [], Nat.zero_le _, rfl, ⟨by simp, fun i h => by simp at h⟩, O0.out, B0.out, H0.out⟩
 case round =>
  obtain ⟨k, fs, hk, rfl, LK, OW, BW, HW⟩ := hrel
  clear O0 B0 H0
  by_cases hlt : k < es.length
  ·have hal := HA.out (by omega)
   subst hal
   have hi2 : (k : Int) < (es.length : Int) := by omega
   have RU := hq (RG.out wr BW.out k hlt)
   go_wp2_with (refine wpList_load_mid rfl 139 _ rfl b (off + k * 5) rfl (cmdC es[k]) _ RU.out Tryz.underlying139 rfl (show (Tryz.prog.info? 139).map (·.size) = some 5 by kernel_rfl) ?_)
   refine (toCmd_c es[k] wr).mono ?_
   rintro e w1 ⟨rfl, b1⟩
   have hfl : fs.length = k := by have := LK.out.1; rw [List.length_take] at this; omega
   have LK2 := hq (LsLk.snoc hlt (y := es[k]) LK.out rfl)
   have AK : AllK 5 (fs.map cmdC ++ List.replicate (es.length - k) cmdZ) := fun l hl => by
    rcases List.mem_append.1 hl with h1 | h1
    ·exact allK_map (K := 5) (fun _ => rfl) fs l h1
    ·rw [(List.mem_replicate.1 h1).2]; rfl
   obtain ⟨cc, hcc⟩ : ∃ cc : List Value, cc = cmdC es[k] := ⟨_, rfl⟩
   have hcl : cc.length = 5 := by rw [hcc]; rfl
   rw [← hcc]
   have PU := owns_putL (owns_below OW.out b1) (by simp [hfl]; omega) AK k hlt cc hcl
   have TH : Hid (w1.there w.heap.size (k * 5) cc.toArray.size) := by show World.there _ _ _ cc.length; rw [hcl]; exact PU.2
   have ES : (fs.map cmdC ++ List.replicate (es.length - k) cmdZ).set k cc = (fs ++ [es[k]]).map cmdC ++ List.replicate (es.length - (k + 1)) cmdZ := by
    rw [show es.length - k = (es.length - (k + 1)) + 1 by omega, List.replicate_succ, List.set_append_right _ _ (by simp [hfl]), List.length_map, hfl, Nat.sub_self, List.set_cons_zero, List.map_append, hcc]
    simp
   have P1 := PU.1
   rw [ES] at P1
   have OW2 := hq P1
   have GC : Chg (fun g => g = w.heap.size) w1 (w1.setCells w.heap.size (k * 5) cc) := Chg.setCells (F := fun b => b = w.heap.size) (g := w.heap.size) (fun _ => rfl) _ _ w1 (Chg.refl _ _)
   have BW2 := hq ((Below.and BW.out b1).trans (GC.below (fun g hg e => by omega) (Below.and BW.out b1).size))
   have HW2 : Hid (w.heap.size < (w1.setCells w.heap.size (k * 5) cc).heap.size) := Nat.lt_of_lt_of_le (Nat.lt_of_lt_of_le HW.out b1.size) GC.size
   have ONE : Hid (cc.toArray.all (·.oneCell') = true) := by rw [hcc]; exact (show (cmdC es[k]).toArray.all (·.oneCell') = true by simp [cmdC, Value.oneCell'])
   have HM : Hid ((Tryz.prog.info? 117).map (·.size) = some cc.toArray.size) := by show _ = some cc.length; rw [hcl]; exact (show (Tryz.prog.info? 117).map (·.size) = some 5 by kernel_rfl)
   clear hcc hcl PU P1 GC AK ES b1 OW LK BW HW
   go_wp2_with (refine wpList_store_mid rfl 117 _ _ rfl w.heap.size (k * 5) cc.toArray rfl rfl TH.out HM.out ONE.out ?_)
   generalize w1.setCells w.heap.size (k * 5) cc = W2 at *
   go_roundw
   case rel => exact ⟨k + 1, fs ++ [es[k]], by omega, by go_num, LK2.out, OW2.out, BW2.out, HW2.out⟩
   case measure => simp [intOf]; omega
  ·have hi2 : ¬ (k : Int) < (es.length : Int) := by omega
   have hke : k = es.length := by omega
   have L2 : Hid (LsLk Eq es fs) := by have := LK.out; rw [hke, List.take_length] at this; exact this
   have O2 : Hid (wr.ownsRow w.heap.size 117 5 (.slice (some ⟨w.heap.size, 0, none⟩) es.length es.length) fs.length (fs.map cmdC).flatten) := by
    have := OW.out
    rw [hke, Nat.sub_self, List.replicate_zero, List.append_nil] at this
    show World.ownsRow _ _ _ _ _ _ _
    rw [← L2.out.1]
    exact this
   clear LK OW
   go_wp2
   go_ret
   exact ⟨_, rfl, fs, L2.out, O2.out, BW.out⟩

theorem toLeadS_own (v : Value) (es : List LedE) (w : World) (h : LsAt ledC noAt w v es) (hn : es.length ≤ 1048576) :
  Calls Tryz.prog 32 #[v] w fun e w' => ∃ (v' : Value) (fs : List LedE), e = .returned v' ∧ LsLk Eq es fs ∧ w'.ownsRow w.heap.size 121 2 v' fs.length (fs.map ledC).flatten ∧ Below w.heap.size w w' := by
 obtain ⟨a, b, off, cap, rfl, hcap, hmax, ha, rg⟩ := h.parts (K := 2) (fun _ => rfl)
 obtain ⟨i0, hi, hz0, hz1, hz2⟩ := info_parts (show (Tryz.prog.info? 121).map (fun i => (i.zero, i.size, i.bytes)) = some (some (.agg ledZ.toArray), 2, 16) by kernel_rfl)
 unfold maxLen at hmax
 have RG := hq rg
 have HA := hq ha
 clear h rg ha
 go_enter Tryz.func32, Tryz.ntmps32
 go_wp2_with (at_make; refine wpList_make_full _ rfl _ _ 35 rfl w.heap.size 121 i0 _ 2 Tryz.underlying35 hi hz0 hz1 .i64 .i64 _ _ es.length rfl rfl rfl rfl ?c1 ?c2 ?c3 ?_)
 case c1 => rw [hz2]; omega
 case c2 => unfold maxLen; omega
 case c3 => exact Nat.le_refl _
 intro w0 hown0 hgrow0
 have B0 := hq ((Below.refl w.heap.size w).grown hgrow0 (Nat.le_refl _) (fun k hk => by cases hk))
 have O0 : Hid (w0.ownsRow w.heap.size 121 2 (.slice (some ⟨w.heap.size, 0, none⟩) es.length es.length) es.length (List.replicate es.length ledZ).flatten) := by
  show World.ownsRow _ _ _ _ _ _ _
  rw [← made_flat ledZ 2 rfl (by decide) es.length]
  exact hown0
 have H0 : Hid (w.heap.size < w0.heap.size) := by
  obtain ⟨_, h2⟩ := O0.out
  rcases h2 with ⟨h2, _⟩ | ⟨g, _, cur, hv, _, hg, _⟩
  ·cases h2
  ·simp only [Value.slice.injEq, Option.some.injEq, Addr.mk.injEq, true_and, and_true] at hv
   rw [hv.1]
   exact (Array.getElem?_eq_some_iff.1 hg).1
 clear hgrow0 hown0 hi hz0 hz1 hz2
 go_wp2
 go_loopw [4] (fun i wr => ∃ (k : Nat) (fs : List LedE), k ≤ es.length ∧ i = .int .i64 k ∧ Hid (LsLk Eq (es.take k) fs) ∧ Hid (wr.ownsRow w.heap.size 121 2 (.slice (some ⟨w.heap.size, 0, none⟩) es.length es.length) es.length (fs.map ledC ++ List.replicate (es.length - k) ledZ).flatten) ∧ Hid (Below w.heap.size w wr) ∧ Hid (w.heap.size < wr.heap.size))
  (fun i _ => es.length - (intOf i).toNat)
 case atStart => exact ⟨0, [], Nat.zero_le _, rfl, ⟨by simp, fun i h => by simp at h⟩, O0.out, B0.out, H0.out⟩
 case round =>
  obtain ⟨k, fs, hk, rfl, LK, OW, BW, HW⟩ := hrel
  clear O0 B0 H0
  by_cases hlt : k < es.length
  ·have hal := HA.out (by omega)
   subst hal
   have hi2 : (k : Int) < (es.length : Int) := by omega
   have RU := hq (RG.out wr BW.out k hlt)
   go_wp2_with (refine wpList_load_mid rfl 145 _ rfl b (off + k * 2) rfl (ledC es[k]) _ RU.out Tryz.underlying145 rfl (show (Tryz.prog.info? 145).map (·.size) = some 2 by kernel_rfl) ?_)
   refine (toLead_c es[k] wr).mono ?_
   rintro e w1 ⟨rfl, b1⟩
   have hfl : fs.length = k := by have := LK.out.1; rw [List.length_take] at this; omega
   have LK2 := hq (LsLk.snoc hlt (y := es[k]) LK.out rfl)
   have AK : AllK 2 (fs.map ledC ++ List.replicate (es.length - k) ledZ) := fun l hl => by
    rcases List.mem_append.1 hl with h1 | h1
    ·exact allK_map (K := 2) (fun _ => rfl) fs l h1
    ·rw [(List.mem_replicate.1 h1).2]; rfl
   obtain ⟨cc, hcc⟩ : ∃ cc : List Value, cc = ledC es[k] := ⟨_, rfl⟩
   have hcl : cc.length = 2 := by rw [hcc]; rfl
   rw [← hcc]
   have PU := owns_putL (owns_below OW.out b1) (by simp [hfl]; omega) AK k hlt cc hcl
   have TH : Hid (w1.there w.heap.size (k * 2) cc.toArray.size) := by show World.there _ _ _ cc.length; rw [hcl]; exact PU.2
   have ES : (fs.map ledC ++ List.replicate (es.length - k) ledZ).set k cc = (fs ++ [es[k]]).map ledC ++ List.replicate (es.length - (k + 1)) ledZ := by
    rw [show es.length - k = (es.length - (k + 1)) + 1 by omega, List.replicate_succ, List.set_append_right _ _ (by simp [hfl]), List.length_map, hfl, Nat.sub_self, List.set_cons_zero, List.map_append, hcc]
    simp
   have P1 := PU.1
   rw [ES] at P1
   have OW2 := hq P1
   have GC : Chg (fun g => g = w.heap.size) w1 (w1.setCells w.heap.size (k * 2) cc) := Chg.setCells (F := fun b => b = w.heap.size) (g := w.heap.size) (fun _ => rfl) _ _ w1 (Chg.refl _ _)
   have BW2 := hq ((Below.and BW.out b1).trans (GC.below (fun g hg e => by omega) (Below.and BW.out b1).size))
   have HW2 : Hid (w.heap.size < (w1.setCells w.heap.size (k * 2) cc).heap.size) := Nat.lt_of_lt_of_le (Nat.lt_of_lt_of_le HW.out b1.size) GC.size
   have ONE : Hid (cc.toArray.all (·.oneCell') = true) := by rw [hcc]; exact (show (ledC es[k]).toArray.all (·.oneCell') = true by simp [ledC, Value.oneCell'])
   have HM : Hid ((Tryz.prog.info? 121).map (·.size) = some cc.toArray.size) := by show _ = some cc.length; rw [hcl]; exact (show (Tryz.prog.info? 121).map (·.size) = some 2 by kernel_rfl)
   clear hcc hcl PU P1 GC AK ES b1 OW LK BW HW
   go_wp2_with (refine wpList_store_mid rfl 121 _ _ rfl w.heap.size (k * 2) cc.toArray rfl rfl TH.out HM.out ONE.out ?_)
   generalize w1.setCells w.heap.size (k * 2) cc = W2 at *
   go_roundw
   case rel => exact ⟨k + 1, fs ++ [es[k]], by omega, by go_num, LK2.out, OW2.out, BW2.out, HW2.out⟩
   case measure => simp [intOf]; omega
  ·have hi2 : ¬ (k : Int) < (es.length : Int) := by omega
   have hke : k = es.length := by omega
   have L2 : Hid (LsLk Eq es fs) := by have := LK.out; rw [hke, List.take_length] at this; exact this
   have O2 : Hid (wr.ownsRow w.heap.size 121 2 (.slice (some ⟨w.heap.size, 0, none⟩) es.length es.length) fs.length (fs.map ledC).flatten) := by
    have := OW.out
    rw [hke, Nat.sub_self, List.replicate_zero, List.append_nil] at this
    show World.ownsRow _ _ _ _ _ _ _
    rw [← L2.out.1]
    exact this
   clear LK OW
   go_wp2
   go_ret
   exact ⟨_, rfl, fs, L2.out, O2.out, BW.out⟩
end
section
open Go.RowKit

def LsOwn {ε : Type} (cs : ε → List Value) (Own : Nat → World → ε → Prop) (T K base : Nat) (w : World) (v : Value) (fs : List ε) : Prop := w.ownsRow base T K v fs.length (fs.map cs).flatten ∧ ∀ f ∈ fs, Own base w f
def noOwn {ε : Type} (_ : Nat) (_ : World) (_ : ε) : Prop := True
structure OwnK {ε : Type} (Own : Nat → World → ε → Prop) : Prop where
 below : ∀ b w u e, Own b w e → Below w.heap.size w u → Own b u e
 low : ∀ b b' w e, Own b w e → b' ≤ b → Own b' w e
 but : ∀ b R w u e, Own b w e → Chg (fun g => g = R) w u → R < b → Own b u e
def WrOwn (n : Nat) (w : World) (base : Nat) (W : WrV) (D : Wd) : Prop :=
 LsOwn nodC (nodOwn n) 73 23 base w W.nv D.ns ∧ LsOwn rpcC (rpcOwn n) 87 15 base w W.rv D.rs ∧ LsOwn cmdC noOwn 117 5 base w W.cv D.cs ∧ w.ownsRow base 141 4 W.av D.ds.length (flatD D.ds) ∧ LsOwn ledC noOwn 121 2 base w W.lv D.ls
def TW (w : World) (A C : Array Value) (u : World) : Prop := Below w.heap.size w u ∧ w.heap.size + 3 ≤ u.heap.size ∧ u.heap[w.heap.size]? = some (.cells A 28 (0, 0)) ∧ u.heap[w.heap.size + 1]? = some (.cells #[.int .i64 0, .slice none 0 0, .slice none 0 0, .slice none 0 0, .slice none 0 0, .slice none 0 0] 37 (0, 0)) ∧ u.heap[w.heap.size + 1 + 1]? = some (.cells C 37 (0, 0))
theorem TW.step {w u u' : World} {A C : Array Value} (h : TW w A C u) (hb : Below u.heap.size u u') : TW w A C u' := ⟨Below.and h.1 hb, Nat.le_trans h.2.1 hb.size, step_at h.2.2.1 hb, step_at h.2.2.2.1 hb, step_at h.2.2.2.2 hb⟩
theorem TW.sets {w u u' : World} {A C C' : Array Value} (h : TW w A C u) (hc : Chg (fun g => g = w.heap.size + 1 + 1) u u') (h2 : u'.heap[w.heap.size + 1 + 1]? = some (.cells C' 37 (0, 0))) : TW w A C' u' :=
 ⟨h.1.trans (hc.below (fun g _ hg => by omega) h.1.size), Nat.le_trans h.2.1 hc.size, row_chg h.2.2.1 hc (by omega), row_chg h.2.2.2.1 hc (by omega), h2⟩
theorem TW.set {w u : World} {A C : Array Value} (h : TW w A C u) (i : Nat) (v : Value) : TW w A (C.setIfInBounds i v) (u.setCell ⟨w.heap.size + 1 + 1, i, none⟩ v) ∧ Chg (fun g => g = w.heap.size + 1 + 1) u (u.setCell ⟨w.heap.size + 1 + 1, i, none⟩ v) := by
 have hc := (Chg.refl (fun g => g = w.heap.size + 1 + 1) u).setAt (w.heap.size + 1 + 1) i rfl v
 exact ⟨h.sets hc (set_at i v h.2.2.2.2), hc⟩
end
end Go.Proofs.YtkcaelfkcepdkaaGreat
