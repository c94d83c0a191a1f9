/-
  A world in memory: the laws' own functions that measure and compare it.
-/
import Derived.Test.YthfmifdpldmbaaaOfFirst10
import Derived.Test.YthfmifdpldmbaaaOfFirst12
import Derived.Test.YthfmifdpldmbaaaOfFirst2
namespace Go.Proofs.Ythfmifdpldmbaaa
set_option maxRecDepth 100000
set_option maxHeartbeats 8000000
section
open Go.RowKit

structure WrV where
 sz : Int
 nv : Value
 rv : Value
 cv : Value
 av : Value
 lv : Value
abbrev WrV.val (W : WrV) : Value := .agg #[.int .i64 W.sz, W.nv, W.rv, W.cv, W.av, W.lv]
structure Wd where
 ns : List NodE
 rs : List RpcE
 cs : List CmdE
 ds : DL
 ls : List LedE
def WrAt (n : Nat) (w : World) (W : WrV) (D : Wd) : Prop :=
 LsAt nodC (nodAt n) w W.nv D.ns ∧ LsAt rpcC (rpcAt n) w W.rv D.rs ∧ LsAt cmdC noAt w W.cv D.cs ∧ Row w W.av D.ds.length (flatD D.ds) ∧ LsAt ledC noAt w W.lv D.ls
theorem nodAt_b (n : Nat) : ∀ w u e, nodAt n w e → Below w.heap.size w u → nodAt n u e := fun _ _ _ h hb => NodAt.below h hb
theorem rpcAt_b (n : Nat) : ∀ w u e, rpcAt n w e → Below w.heap.size w u → rpcAt n u e := fun _ _ _ h hb => RpcAt.below h hb
theorem noAt_b {ε : Type} : ∀ (w u : World) (e : ε), noAt w e → Below w.heap.size w u → noAt u e := fun _ _ _ _ _ => trivial
theorem WrAt.below {n : Nat} {w u : World} {W : WrV} {D : Wd} (h : WrAt n w W D) (hb : Below w.heap.size w u) : WrAt n u W D :=
 ⟨h.1.below (nodAt_b n) hb, h.2.1.below (rpcAt_b n) hb, h.2.2.1.below noAt_b hb, h.2.2.2.1.below hb, h.2.2.2.2.below noAt_b hb⟩
structure Wd.small (n : Nat) (D : Wd) : Prop where
 n1 : ∀ e ∈ D.ns, e.2.small n
 r1 : ∀ e ∈ D.rs, e.2.small n
 n : D.ns.length ≤ 1048576
 r : D.rs.length ≤ 1048576
 c : D.cs.length ≤ 1048576
 d : D.ds.length ≤ 1048576
 l : D.ls.length ≤ 1048576
structure Wd.like (D E : Wd) : Prop where
 n : LsLk nodLk D.ns E.ns
 r : LsLk rpcLk D.rs E.rs
 c : D.cs = E.cs
 d : D.ds = E.ds
 l : D.ls = E.ls
def Wd.tot (n : Nat) (D : Wd) : Nat := D.ns.length + sumE (nodN n) D.ns D.ns.length + D.rs.length + sumE (rpcN n) D.rs D.rs.length + D.cs.length + D.ds.length + D.ls.length
theorem LsLk.eq {ε : Type} {es fs : List ε} (h : LsLk Eq es fs) : es = fs := List.ext_getElem h.1 h.2
theorem LsLk.refl {ε : Type} {lk : ε → ε → Prop} (hr : ∀ e, lk e e) (es : List ε) : LsLk lk es es := ⟨rfl, fun _ _ _ => hr _⟩
theorem LsLk.both {ε : Type} {lk : ε → ε → Prop} (hb : ∀ e f g, lk e f → lk e g → lk f g) {es fs gs : List ε} (h : LsLk lk es fs) (k : LsLk lk es gs) : LsLk lk fs gs :=
 ⟨h.1.symm.trans k.1, fun i h1 h2 => hb _ _ _ (h.2 i (by have := h.1; omega) h1) (k.2 i (by have := h.1; omega) h2)⟩
theorem nodLk.both (e f g : NodE) (h : nodLk e f) (k : nodLk e g) : nodLk f g := by
 obtain ⟨⟨a1, a2, a3, a4, a5, a6, a7⟩, a8⟩ := h
 obtain ⟨⟨b1, b2, b3, b4, b5, b6, b7⟩, b8⟩ := k
 exact ⟨⟨a1.symm.trans b1, a2.symm.trans b2, a3.symm.trans b3, a4.symm.trans b4, a5.symm.trans b5, a6.symm.trans b6, a7.symm.trans b7⟩, a8.symm.trans b8⟩
theorem rpcLk.both (e f g : RpcE) (h : rpcLk e f) (k : rpcLk e g) : rpcLk f g := by
 obtain ⟨⟨a1, a2, a3, a4, a5, a6, a7, a9⟩, a8⟩ := h
 obtain ⟨⟨b1, b2, b3, b4, b5, b6, b7, b9⟩, b8⟩ := k
 exact ⟨⟨a1.symm.trans b1, a2.symm.trans b2, a3.symm.trans b3, a4.symm.trans b4, a5.symm.trans b5, a6.symm.trans b6, a7.symm.trans b7, a9.symm.trans b9⟩, a8.symm.trans b8⟩
theorem Wd.like.both {D E F : Wd} (h : D.like E) (k : D.like F) : E.like F := ⟨h.n.both nodLk.both k.n, h.r.both rpcLk.both k.r, h.c.symm.trans k.c, h.d.symm.trans k.d, h.l.symm.trans k.l⟩
theorem Wd.small.like {n : Nat} {D E : Wd} (h : D.small n) (k : D.like E) : E.small n := by
 refine ⟨fun e he => ?_, fun e he => ?_, k.n.1 ▸ h.n, k.r.1 ▸ h.r, k.c ▸ h.c, k.d ▸ h.d, k.l ▸ h.l⟩
 ·obtain ⟨i, hi, rfl⟩ := List.getElem_of_mem he
  have hi' : i < D.ns.length := by have := k.n.1; omega
  rw [← (k.n.2 i hi' hi).2]
  exact h.n1 _ (List.getElem_mem hi')
 ·obtain ⟨i, hi, rfl⟩ := List.getElem_of_mem he
  have hi' : i < D.rs.length := by have := k.r.1; omega
  rw [← (k.r.2 i hi' hi).2]
  exact h.r1 _ (List.getElem_mem hi')
theorem LsAt.len {ε : Type} {cs : ε → List Value} {At : World → ε → Prop} {w : World} {v : Value} {es : List ε} (h : LsAt cs At w v es) : ∃ (a : Option Addr) (cap : Nat), v = .slice a es.length cap ∧ es.length ≤ maxLen := by
 obtain ⟨a, _, _, cap, h1, h2, h3, _⟩ := h.1
 exact ⟨a, cap, h1, Nat.le_trans h2 h3⟩

theorem szWorld_n (n : Nat) (W : WrV) (D : Wd) (w : World) (h : WrAt n w W D) :
  Calls Try.prog 4 #[W.val, .int .i64 1048576] w fun e w' => ∃ r : Int, e = .returned (.int .i64 r) ∧ r ≤ 1048576 ∧ (¬ r < 0 → D.small n ∧ r + (D.tot n : Nat) ≤ 1048576) ∧ Below w.heap.size w w' := by
 obtain ⟨sz, nv, rv, cv, av, lv⟩ := W
 obtain ⟨q1, q2, q3, q4, q5⟩ := h
 obtain ⟨na, nc, hnv, _⟩ := q1.len
 obtain ⟨ra, rc, hrv, _⟩ := q2.len
 obtain ⟨ca, cc, hcv, hlc⟩ := q3.len
 obtain ⟨da, dc, hav, hld⟩ := q4.len
 obtain ⟨la, lc, hlv, hll⟩ := q5.len
 simp only at hnv hrv hcv hav hlv
 subst hnv hrv hcv hav hlv
 have S1 := hq (fun u (L : Int) (hu : Below w.heap.size w u) (a : 0 ≤ L) (b : L ≤ 1048576) => szNodeS_t n _ D.ns L u (q1.below (nodAt_b n) hu) a b)
 have S2 := hq (fun u (L : Int) (hu : Below w.heap.size w u) (a : 0 ≤ L) (b : L ≤ 1048576) => szRpcS_t n _ D.rs L u (q2.below (rpcAt_b n) hu) a b)
 have S3 := hq (fun u (L : Int) (a : 0 ≤ L) (b : L ≤ 1048576) => szCmdS_any ca D.cs.length cc L hlc a b u)
 have S4 := hq (fun u (L : Int) (a : 0 ≤ L) (b : L ≤ 1048576) => szDoneS_any da D.ds.length dc L hld a b u)
 have S5 := hq (fun u (L : Int) (a : 0 ≤ L) (b : L ≤ 1048576) => szLeadS_any la D.ls.length lc L hll a b u)
 have FIN : Hid (∀ r1 r2 r3 : Int, r1 + D.ns.length + (sumE (nodN n) D.ns D.ns.length : Nat) ≤ 1048576 → 0 ≤ r1 → r2 + D.rs.length + (sumE (rpcN n) D.rs D.rs.length : Nat) ≤ r1 → 0 ≤ r3 → r3 = r2 - D.cs.length - D.ds.length - D.ls.length → D.small n ∧ r3 + (D.tot n : Nat) ≤ 1048576) := fun r1 r2 r3 a b c d e =>
  ⟨⟨fun x hx => Nd.small_all (by have := sumE_ge (nodN n) D.ns x hx; unfold nodN at *; omega), fun x hx => Rd.small_all (by have := sumE_ge (rpcN n) D.rs x hx; unfold rpcN at *; omega), by omega, by omega, by omega, by omega, by omega⟩, by unfold Wd.tot; omega⟩
 clear q1 q2 q3 q4 q5 hlc hld hll
 generalize D.small n = SM at *
 generalize D.tot n = tt at *
 generalize (sumE (nodN n) D.ns D.ns.length : Nat) = sn at *
 generalize (sumE (rpcN n) D.rs D.rs.length : Nat) = sr at *
 generalize D.ns.length = ln at *
 generalize D.rs.length = lr at *
 generalize D.cs.length = lk at *
 generalize D.ds.length = ld at *
 generalize D.ls.length = ll at *
 have N1 : Hid (MBox 28 (w.alloc (.cells #[.int .i64 sz, .slice na ln nc, .slice ra lr rc, .slice ca lk cc, .slice da ld dc, .slice la ll lc] 28)) w.heap.size #[.int .i64 sz, .slice na ln nc, .slice ra lr rc, .slice ca lk cc, .slice da ld dc, .slice la ll lc]) := MBox.start _ w _
 have B1 : Hid (Below w.heap.size w (w.alloc (.cells #[.int .i64 sz, .slice na ln nc, .slice ra lr rc, .slice ca lk cc, .slice da ld dc, .slice la ll lc] 28))) := bel_nw _ _
 have c1 := N1.out.cells
 show Calls Try.prog 4 #[.agg #[.int .i64 sz, .slice na ln nc, .slice ra lr rc, .slice ca lk cc, .slice da ld dc, .slice la ll lc], .int .i64 1048576] w _
 go_enter Try.func4, Try.ntmps4
 go_wp2_with fail
 generalize w.alloc (.cells #[.int .i64 sz, .slice na ln nc, .slice ra lr rc, .slice ca lk cc, .slice da ld dc, .slice la ll lc] 28) = W at *
 refine (S1.out _ 1048576 B1.out (by omega) (by omega)).mono ?_
 rintro e w1 ⟨r1, rfl, t1, t2, b1⟩
 replace B1 := hq (Below.and B1.out b1)
 replace N1 := hq (N1.out.step b1)
 have T1 := hq t2
 clear b1 c1 t2
 have c1 := N1.out.cells
 by_cases p1 : r1 < 0
 ·go_wp2
  go_ret
  exact ⟨_, rfl, by omega, fun h => by omega, B1.out⟩
 go_wp2_with fail
 refine (S2.out _ r1 B1.out (by omega) (by omega)).mono ?_
 rintro e w2 ⟨r2, rfl, t3, t2, b2⟩
 replace B1 := hq (Below.and B1.out b2)
 replace N1 := hq (N1.out.step b2)
 have T2 := hq t2
 clear b2 c1 t2
 have c1 := N1.out.cells
 by_cases p2 : r2 < 0
 ·go_wp2
  go_ret
  exact ⟨_, rfl, by omega, fun h => by omega, B1.out⟩
 go_wp2_with fail
 refine (S3.out _ r2 (by omega) (by omega)).mono ?_
 rintro e w3 ⟨rfl, rfl⟩
 by_cases p3 : (lk : Int) ≤ r2
 ·rw [if_pos p3]
  go_wp2_with fail
  refine (S4.out _ (r2 - lk) (by omega) (by omega)).mono ?_
  rintro e w4 ⟨rfl, rfl⟩
  by_cases p4 : (ld : Int) ≤ r2 - lk
  ·rw [if_pos p4]
   go_wp2_with fail
   refine (S5.out _ (r2 - lk - ld) (by omega) (by omega)).mono ?_
   rintro e w5 ⟨rfl, rfl⟩
   by_cases p5 : (ll : Int) ≤ r2 - lk - ld
   ·rw [if_pos p5]
    go_wp2
    go_ret
    exact ⟨_, rfl, by omega, fun _ => FIN.out r1 r2 _ (T1.out p1) (by omega) (T2.out p2) (by omega) rfl, B1.out⟩
   ·rw [if_neg p5]
    go_wp2
    go_ret
    exact ⟨_, rfl, by omega, fun h => by omega, B1.out⟩
  ·rw [if_neg p4]
   go_wp2
   go_ret
   exact ⟨_, rfl, by omega, fun h => by omega, B1.out⟩
 ·rw [if_neg p3]
  go_wp2
  go_ret
  exact ⟨_, rfl, by omega, fun h => by omega, B1.out⟩
theorem szWorld_t (n : Nat) (W : WrV) (D : Wd) (w : World) (h : WrAt n w W D) :
  Calls Try.prog 4 #[W.val, .int .i64 1048576] w fun e w' => ∃ r : Int, e = .returned (.int .i64 r) ∧ r ≤ 1048576 ∧ (¬ r < 0 → D.small n) ∧ Below w.heap.size w w' := (szWorld_n n W D w h).mono (fun _ _ ⟨r, a, b, c, d⟩ => ⟨r, a, b, fun h => (c h).1, d⟩)

theorem eqWorld_t (n : Nat) (W V : WrV) (D E : Wd) (w : World) (hs : W.sz = V.sz) (hl : D.like E) (h : WrAt n w W D) (h2 : WrAt n w V E) :
  Calls Try.prog 8 #[W.val, V.val] w fun e w' => e = .returned (.bool true) ∧ Below w.heap.size w w' := by
 obtain ⟨sz, nv, rv, cv, av, lv⟩ := W
 obtain ⟨sz2, nv2, rv2, cv2, av2, lv2⟩ := V
 simp only at hs
 subst hs
 obtain ⟨q1, q2, q3, q4, q5⟩ := h
 obtain ⟨k1, k2, k3, k4, k5⟩ := h2
 have S1 := hq (fun u (hu : Below w.heap.size w u) => eqNodeS_t n nv nv2 D.ns E.ns u (q1.below (nodAt_b n) hu) (k1.below (nodAt_b n) hu) hl.n)
 have S2 := hq (fun u (hu : Below w.heap.size w u) => eqRpcS_t n rv rv2 D.rs E.rs u (q2.below (rpcAt_b n) hu) (k2.below (rpcAt_b n) hu) hl.r)
 have S3 := hq (fun u (hu : Below w.heap.size w u) => eqCmdS_t cv cv2 D.cs E.cs u (q3.below noAt_b hu) (k3.below noAt_b hu) (by rw [hl.c]; exact LsLk.refl (fun _ => rfl) _))
 have S4 := hq (fun u (hu : Below w.heap.size w u) => eqDoneS_any av av2 D.ds E.ds u (q4.below hu) (k4.below hu))
 have S5 := hq (fun u (hu : Below w.heap.size w u) => eqLeadS_t lv lv2 D.ls E.ls u (q5.below noAt_b hu) (k5.below noAt_b hu) (by rw [hl.l]; exact LsLk.refl (fun _ => rfl) _))
 have ED : Hid (decide (D.ds = E.ds) = true) := decide_eq_true hl.d
 obtain ⟨na, nc, hn, _⟩ := q1.len
 obtain ⟨na2, nc2, hn2, _⟩ := k1.len
 obtain ⟨ra, rc, hr, _⟩ := q2.len
 obtain ⟨ra2, rc2, hr2, _⟩ := k2.len
 obtain ⟨ca, cc, hc, _⟩ := q3.len
 obtain ⟨ca2, cc2, hc2, _⟩ := k3.len
 obtain ⟨da, dc, hd, _⟩ := q4.len
 obtain ⟨da2, dc2, hd2, _⟩ := k4.len
 obtain ⟨la, lc, hll, _⟩ := q5.len
 obtain ⟨la2, lc2, hll2, _⟩ := k5.len
 simp only at hn hn2 hr hr2 hc hc2 hd hd2 hll hll2
 subst hn hn2 hr hr2 hc hc2 hd hd2 hll hll2
 clear q1 q2 q3 q4 q5 k1 k2 k3 k4 k5 hl
 have N1 := hq ((MBox.start 37 w #[.int .i64 sz, .slice na D.ns.length nc, .slice ra D.rs.length rc, .slice ca D.cs.length cc, .slice da D.ds.length dc, .slice la D.ls.length lc]).step (bel_nw _ (.cells #[.int .i64 sz, .slice na2 E.ns.length nc2, .slice ra2 E.rs.length rc2, .slice ca2 E.cs.length cc2, .slice da2 E.ds.length dc2, .slice la2 E.ls.length lc2] 37)))
 have N2 := hq (MBox.start 37 (w.alloc (.cells #[.int .i64 sz, .slice na D.ns.length nc, .slice ra D.rs.length rc, .slice ca D.cs.length cc, .slice da D.ds.length dc, .slice la D.ls.length lc] 37)) #[.int .i64 sz, .slice na2 E.ns.length nc2, .slice ra2 E.rs.length rc2, .slice ca2 E.cs.length cc2, .slice da2 E.ds.length dc2, .slice la2 E.ls.length lc2])
 have B1 : Hid (Below w.heap.size w ((w.alloc (.cells #[.int .i64 sz, .slice na D.ns.length nc, .slice ra D.rs.length rc, .slice ca D.cs.length cc, .slice da D.ds.length dc, .slice la D.ls.length lc] 37)).alloc (.cells #[.int .i64 sz, .slice na2 E.ns.length nc2, .slice ra2 E.rs.length rc2, .slice ca2 E.cs.length cc2, .slice da2 E.ds.length dc2, .slice la2 E.ls.length lc2] 37))) := Below.and (bel_nw _ _) (bel_nw _ _)
 have c1 := N1.out.cells
 have c2 := N2.out.cells
 simp only [World.size_alloc] at c2 N2
 show Calls Try.prog 8 #[.agg #[.int .i64 sz, .slice na D.ns.length nc, .slice ra D.rs.length rc, .slice ca D.cs.length cc, .slice da D.ds.length dc, .slice la D.ls.length lc], .agg #[.int .i64 sz, .slice na2 E.ns.length nc2, .slice ra2 E.rs.length rc2, .slice ca2 E.cs.length cc2, .slice da2 E.ds.length dc2, .slice la2 E.ls.length lc2]] w _
 go_enter Try.func8, Try.ntmps8
 go_wp2_with fail
 generalize ((w.alloc (.cells #[.int .i64 sz, .slice na D.ns.length nc, .slice ra D.rs.length rc, .slice ca D.cs.length cc, .slice da D.ds.length dc, .slice la D.ls.length lc] 37)).alloc (.cells #[.int .i64 sz, .slice na2 E.ns.length nc2, .slice ra2 E.rs.length rc2, .slice ca2 E.cs.length cc2, .slice da2 E.ds.length dc2, .slice la2 E.ls.length lc2] 37)) = W at *
 refine (S1.out _ B1.out).mono ?_
 rintro e w1 ⟨rfl, b1⟩
 replace B1 := hq (Below.and B1.out b1)
 replace N1 := hq (N1.out.step b1)
 replace N2 := hq (N2.out.step b1)
 clear b1 c1 c2
 have c1 := N1.out.cells
 have c2 := N2.out.cells
 go_wp2_with fail
 refine (S2.out _ B1.out).mono ?_
 rintro e w2 ⟨rfl, b1⟩
 replace B1 := hq (Below.and B1.out b1)
 replace N1 := hq (N1.out.step b1)
 replace N2 := hq (N2.out.step b1)
 clear b1 c1 c2
 have c1 := N1.out.cells
 have c2 := N2.out.cells
 go_wp2_with fail
 refine (S3.out _ B1.out).mono ?_
 rintro e w3 ⟨rfl, b1⟩
 replace B1 := hq (Below.and B1.out b1)
 replace N1 := hq (N1.out.step b1)
 replace N2 := hq (N2.out.step b1)
 clear b1 c1 c2
 have c1 := N1.out.cells
 have c2 := N2.out.cells
 go_wp2_with fail
 refine (S4.out _ B1.out).mono ?_
 rintro e w4 ⟨rfl, b1⟩
 rw [ED.out]
 replace B1 := hq (Below.and B1.out b1)
 replace N1 := hq (N1.out.step b1)
 replace N2 := hq (N2.out.step b1)
 clear b1 c1 c2
 have c1 := N1.out.cells
 have c2 := N2.out.cells
 go_wp2_with fail
 refine (S5.out _ B1.out).mono ?_
 rintro e w5 ⟨rfl, b1⟩
 replace B1 := hq (Below.and B1.out b1)
 replace N1 := hq (N1.out.step b1)
 replace N2 := hq (N2.out.step b1)
 clear b1 c1 c2
 go_wp2
 go_ret
 exact ⟨rfl, B1.out⟩
end
end Go.Proofs.Ythfmifdpldmbaaa
