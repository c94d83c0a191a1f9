/-
  What the model's Inject and Drain make of a tree, as plain functions.
  The contract of the model's Inject.
  The contract of the model's Drain.
  The model's drawing of messages that may be wrong, and of rows of them.
-/
import Derived.Test.YtekcnibohikmdaaOfWrites33
import Derived.Test.YtekcnibohikmdaaOfWrites34
import Derived.Test.YtekcnibohikmdaaOfWrites25
import Derived.Test.YtekcnibohikmdaaOfWrites26
import Derived.Test.YtekcnibohikmdaaOfWrites32
import Derived.Test.YtekcnibohikmdaaOfWrites29
namespace Go.Proofs.Ytekcnibohikmdaa
set_option maxRecDepth 100000
set_option maxHeartbeats 8000000
section
open Go.RowKit

def rootOf (g : TM) : Tr := rootM g.1.length g
def injF (T : Tr) (m : Int × Int × Int) : Tr :=
 if okT T = true ∧ msgOkB m.1 m.2.1 m.2.2 = true ∧ ¬ m.1 = 4 then (if okT (rootOf (giveM (depthT T) T [m])) = true then rootOf (giveM (depthT T) T [m]) else T) else T
def drnF (T : Tr) : Tr := if okT T = true then (if okT (rootOf (drainM (depthT T) T)) = true then rootOf (drainM (depthT T) T) else T) else T

theorem ok_sh {T : Tr} (h : okT T = true) : shT (depthT T) T ∧ depthT T ≤ 7 ∧ wt (depthT T) T + 2 ≤ 49152 := by
 have h0 : depthT T ≠ 0 := by
  unfold okT at h
  have := of_decide_eq_true h
  omega
 have h1 : shT (depthT T) T := sh_of_depth h0
 have h2 : depthT T ≤ 7 := depthF_le _ _ _ _
 refine ⟨h1, h2, Nat.le_trans (wt_le _ _ h1) ?_⟩
 have : 4 ^ depthT T ≤ 4 ^ 7 := Nat.pow_le_pow_right (by decide) h2
 omega

theorem sizeT_stable : ∀ (e : Nat) (T : Tr), shT e T → ∀ n, e ≤ n → sizeT n T = sizeT e T
 | 0, _, h, _, _ => h.elim
 | e + 1, T, h, n, hn => by
  cases n with
  | zero => omega
  | succ n =>
   have hk : T.kids.map (sizeT n) = T.kids.map (sizeT e) := by
    rcases h with ⟨_, _, _, _, h, _⟩ | ⟨_, _, _, _, _, _, h⟩
    ·rw [h]; rfl
    ·exact List.map_congr_left fun t ht => sizeT_stable e t (h t ht) n (by omega)
   show T.pairs.length + (T.cuts.length + (T.kids.length + (T.kids.map (sizeT n)).sum + T.buf.length)) = T.pairs.length + (T.cuts.length + (T.kids.length + (T.kids.map (sizeT e)).sum + T.buf.length))
   rw [hk]
theorem sh_size {e : Nat} {T : Tr} (h : shT e T) {n : Nat} (hn : e ≤ n) : sizeT n T ≤ 7 * wt e T := by
 rw [sizeT_stable e T h n hn]
 have := size_wt e T h
 omega
theorem TreeD.down : ∀ {e n : Nat} {w : World} {F : Nat → Prop} {x : TV} {T : Tr}, shT e T → TreeD n w F x T → TreeD e w F x T
 | 0, _, _, _, _, _, h, _ => h.elim
 | _ + 1, 0, _, _, _, _, _, h => h.elim
 | e + 1, n + 1, w, F, x, T, hs, ⟨h1, h2, h3, h4, h5, xs, K, k1, k2, k3, k4, k5⟩ => by
  refine ⟨h1, h2, h3, h4, h5, xs, K, k1, k2, fun i hi => ?_, k4, k5⟩
  rcases hs with ⟨_, _, _, _, h, _⟩ | ⟨_, _, _, _, _, _, h⟩
  ·rw [k1, h] at hi; exact absurd hi (Nat.not_lt_zero _)
  ·exact TreeD.down (h _ (getD_mem (by omega))) (k3 i hi)

theorem give_root {d : Nat} {T : Tr} {ms : ML} (hs : shT d T) (hp : 0 < ms.length) : ∃ e, e ≤ d + (giveM d T ms).1.length ∧ shT e (rootOf (giveM d T ms)) ∧ wt e (rootOf (giveM d T ms)) ≤ wt d T + ms.length := by
 obtain ⟨h1, h2⟩ := giveM_ok d T ms hs hp
 obtain ⟨e, _, e2, e3, e4⟩ := rootM_ok _ d (giveM d T ms) h1 (Nat.le_refl _)
 exact ⟨e, e2, e3, Nat.le_trans e4 h2⟩
theorem drain_root {d : Nat} {T : Tr} (hs : shT d T) : ∃ e, e ≤ d + (drainM d T).1.length ∧ shT e (rootOf (drainM d T)) ∧ wt e (rootOf (drainM d T)) ≤ wt d T := by
 obtain ⟨h1, h2⟩ := drainM_ok d T hs
 obtain ⟨e, _, e2, e3, e4⟩ := rootM_ok _ d (drainM d T) h1 (Nat.le_refl _)
 exact ⟨e, e2, e3, Nat.le_trans e4 h2⟩
theorem injF_ok {T : Tr} (h : okT T = true) (m : Int × Int × Int) : okT (injF T m) = true := by
 unfold injF
 split
 ·split
  ·assumption
  ·exact h
 ·exact h
theorem drnF_ok {T : Tr} (h : okT T = true) : okT (drnF T) = true := by
 rw [drnF, if_pos h]
 split
 ·assumption
 ·exact h
end
section
open Go.RowKit

def MsgB (w : World) (B : Nat) (A : Array Value) : Prop := w.heap[B]? = some (.cells A 73 (0, 0))
theorem MsgB.step {u w' : World} {B : Nat} {A : Array Value} (h : MsgB u B A) (hb : Below u.heap.size u w') : MsgB w' B A := (hb.block B (Array.getElem?_eq_some_iff.1 h).1).trans h
theorem MsgB.three {u : World} {B : Nat} {x0 x1 x2 : Value} (h : MsgB u B #[x0, x1, x2]) : u.cell? ⟨B, 0, none⟩ = some x0 ∧ u.cell? ⟨B, 1, none⟩ = some x1 ∧ u.cell? ⟨B, 2, none⟩ = some x2 :=
 ⟨by rw [cell_of_row u B 0 _ 73 (0, 0) h]; rfl, by rw [cell_of_row u B 1 _ 73 (0, 0) h]; rfl, by rw [cell_of_row u B 2 _ 73 (0, 0) h]; rfl⟩

structure In4 (w : World) (cs : List Value) (m : Array Value) (V : World) : Prop where
 b : Below w.heap.size w V
 t : Bx V w.heap.size cs
 m : MsgB V (w.heap.size + 1) m
 r : Bx V (w.heap.size + 2) zcs
theorem In4.step {w V u : World} {cs : List Value} {m : Array Value} (h : In4 w cs m V) (k : Below V.heap.size V u) : In4 w cs m u := ⟨Below.and h.b k, h.t.step k, h.m.step k, h.r.step k⟩
theorem In4.start (w : World) {cs : List Value} (h : cs.length = 5) (m : Array Value) : In4 w cs m (((w.alloc (.cells cs.toArray 54)).alloc (.cells m 73)).alloc (.cells zcs.toArray 54)) := by
 have h2 := Below.and (al1 w (.cells cs.toArray 54)) (al1 _ (.cells m 73))
 have h3 : MsgB ((w.alloc (.cells cs.toArray 54)).alloc (.cells m 73)) (w.heap.size + 1) m := by
  have := heap_alloc_new (w.alloc (.cells cs.toArray 54)) (.cells m 73)
  rwa [World.size_alloc] at this
 have h4 : Bx (((w.alloc (.cells cs.toArray 54)).alloc (.cells m 73)).alloc (.cells zcs.toArray 54)) (w.heap.size + 2) zcs := by
  have := Bx.start ((w.alloc (.cells cs.toArray 54)).alloc (.cells m 73)) (cs := zcs) rfl
  rwa [World.size_alloc, World.size_alloc] at this
 exact ⟨Below.and h2 (al1 _ _), ((Bx.start w h).step (al1 _ _)).step (al1 _ _), h3.step (al1 _ _), h4⟩

theorem specInject_any (n : Nat) (x : TV) (T : Tr) (o k v : Int) (w : World) (ht : TreeAt n w x T) (hsz : sizeT n T ≤ 1099511627776) :
  Calls Try.prog 40 #[x.val, .agg #[.int .i64 o, .int .i64 k, .int .i64 v]] w fun e w' => ∃ (y : TV) (N : Nat), e = .returned y.val ∧ TreeD N w' (fun g => w.heap.size ≤ g) y (injF T (o, k, v)) ∧ Below w.heap.size w w' := by
 have HO : Hid (∀ u, Below w.heap.size w u → Calls Try.prog 27 #[.agg x.cells.toArray] u fun e w' => e = .returned (.bool (okT T)) ∧ Below u.heap.size u w') := fun u h => specTreeOk_any n x T u (ht.below h) hsz
 have HC : Hid (∀ u, Below w.heap.size w u → Calls Try.prog 35 #[.agg x.cells.toArray] u fun e w' => ∃ y : TV, e = .returned y.val ∧ TreeD n w' (fun g => u.heap.size ≤ g) y T ∧ Below u.heap.size u w') := fun u h => copy_all n x T u (ht.below h) hsz
 have I0 := hid (In4.start w x.cells_len #[.int .i64 o, .int .i64 k, .int .i64 v])
 show Calls Try.prog 40 #[.agg x.cells.toArray, .agg #[.int .i64 o, .int .i64 k, .int .i64 v]] w _
 clear ht
 generalize x.cells = cs at *
 go_enter Try.func40, Try.ntmps40
 go_upto_region 1 with fail
 refine wp_gen (In4 w cs #[.int .i64 o, .int .i64 k, .int .i64 v]) I0.out ?_
 rintro V IV
 clear I0
 have I := hid IV
 clear IV
 go_cut [18] (fun s wx => ∃ b : Bool, s = .bool b ∧ Hid (b = !(okT T && (msgOkB o k v && !decide (o = 4)))) ∧ Hid (In4 w cs #[.int .i64 o, .int .i64 k, .int .i64 v] wx))
 case first =>
  go_wp2_with (refine ldT rfl rfl _ rfl w.heap.size rfl cs I.out.t ?_)
  refine Calls.mono (HO.out _ I.out.b) ?_
  rintro e w1 ⟨rfl, b1⟩
  have I1 := hid (I.out.step b1)
  clear b1 I
  cases hok : okT T
  ·go_wp2_with fail
   go_meet
   case rel => exact ⟨_, rfl, by show _ = _; simp [hok], I1.out⟩
  ·obtain ⟨j0, j1, j2⟩ := I1.out.m.three
   go_wp2_with fail
   refine Calls.mono (specMsgOk_any o k v w1) ?_
   rintro e w2 ⟨rfl, b2⟩
   have I2 := hid (I1.out.step b2)
   clear b2 I1 j0 j1 j2
   obtain ⟨j0, j1, j2⟩ := I2.out.m.three
   cases hmo : msgOkB o k v
   ·go_wp2_with fail
    go_meet
    case rel => exact ⟨_, rfl, by show _ = _; simp [hok, hmo], I2.out⟩
   ·by_cases ho4 : o = 4
    ·have h4 : (o == 4) = true := by simp [ho4]
     have H4 := hid ho4
     clear ho4
     go_wp2_with fail
     go_meet
     case rel => exact ⟨_, rfl, by show _ = _; simp [hok, H4.out], I2.out⟩
    ·have h4 : (o == 4) = false := by simp [ho4]
     have H4 := hid ho4
     clear ho4
     go_wp2_with fail
     go_meet
     case rel => exact ⟨_, rfl, by show _ = _; simp [hok, hmo, H4.out], I2.out⟩
 case rest =>
  obtain ⟨b, rfl, HB, I⟩ := hcut
  cases b
  ·have hb := HB.out
   simp only [Bool.false_eq, Bool.not_eq_false', Bool.and_eq_true, Bool.not_eq_true', decide_eq_false_iff_not] at hb
   obtain ⟨hok, hmo, ho4⟩ := hb
   have EI : Hid (injF T (o, k, v) = if okT (rootOf (giveM (depthT T) T [(o, k, v)])) = true then rootOf (giveM (depthT T) T [(o, k, v)]) else T) := by show _ = _; rw [injF, if_pos ⟨hok, hmo, ho4⟩]
   obtain ⟨hsh, hd7, hwt⟩ := ok_sh hok
   obtain ⟨e, he1, he2, he3⟩ := give_root (ms := [(o, k, v)]) hsh (by simp)
   obtain ⟨hmm, hmw⟩ := giveM_ok _ _ [(o, k, v)] hsh (by simp)
   simp only [List.length_cons, List.length_nil] at he3 hmw
   have SZ := hid (Nat.le_trans (sh_size he2 he1) (show _ ≤ 1099511627776 by omega))
   have SH := hid hsh
   have HG := hid (fun F y vm c ht hr => give_all (depthT T) F y T vm [(o, k, v)] c ht hr hsh (by simp) (by simp only [List.length_cons, List.length_nil]; omega))
   have HR := hid (fun F v1 v2 c h1 h2 => l4Root_any (depthT T) F v1 v2 (giveM (depthT T) T [(o, k, v)]) c h1 h2 hmm (by omega))
   change Hid (sizeT (depthT T + (giveM (depthT T) T [(o, k, v)]).1.length) (rootOf (giveM (depthT T) T [(o, k, v)])) ≤ _) at SZ
   clear hsh hd7 hwt he1 he2 he3 hmm hmw HB hok hmo ho4
   go_wp2_with fail
   go_cut [5] (fun s5 wx => ∃ (N : Nat) (r : TV), s5 = .pointer (some ⟨N, 0, none⟩) ∧ Hid (Bx wx N r.cells) ∧ Hid (TreeAt (depthT T + (giveM (depthT T) T [(o, k, v)]).1.length) wx r (rootOf (giveM (depthT T) T [(o, k, v)]))) ∧ Hid (In4 w cs #[.int .i64 o, .int .i64 k, .int .i64 v] wx))
   case first =>
    have KP := hid (fun u (hu : Ltr wc.drew u) => I.out.step (Below.and (Below.refl _ wc).drew hu))
    refine wp_region_last (fun u => Bx u w.heap.size cs ∧ MsgB u (w.heap.size + 1) #[.int .i64 o, .int .i64 k, .int .i64 v]) [_, _, _, _, _, _, _] _ rfl (by kernel_rfl) (by kernel_rfl) ?_
    have hS := hid (fun u hu => And.intro (KP.out u hu).t (KP.out u hu).m)
    generalize wc.drew = wd at *
    refine tk 0 (oi := ⟨_, _, _, _, _, _⟩) (v := .agg cs.toArray) rfl (by kernel_rfl) (fun _ _ _ h => h) (yieldsIf_load_mid rfl _ _ rfl w.heap.size 0 rfl cs _ (fun u h => h.1.rg) Try.underlying54 rfl (infoT5 I.out.t.2)) (hS.out _ (Ltr.refl _)) ?_
    refine tk 2 (oi := ⟨_, _, _, _, _, _⟩) (v := .agg #[.int .i64 o, .int .i64 k, .int .i64 v]) rfl (by kernel_rfl) (fun _ _ _ h => h) (Or.inl ⟨by rfl, fun u hu => ?_⟩) (hS.out _ (Ltr.refl _)) ?_
    ·obtain ⟨j0, j1, j2⟩ := hu.2.three
     go_simp
    try simp only [Act.put, sA, sB, sC]
    refine wp_chain [(1, none), (3, some fun u => (.slice (some ⟨u.heap.size, 0, none⟩) 1 1, u.alloc (.cells #[.int .i64 o, .int .i64 k, .int .i64 v] 73))), (4, none), (5, none), (6, some fun u => (.pointer (some ⟨u.heap.size, 0, none⟩), u.alloc (.cells zcs.toArray 54)))] rfl (by kernel_rfl) hS.out ?_ ?_
    ·intro f g hf op ho u _
     simp only [List.mem_cons, Prod.mk.injEq, reduceCtorEq, and_false, false_or, List.not_mem_nil, or_false, Option.some.injEq] at hf
     rcases hf with ⟨rfl, rfl⟩ | ⟨rfl, rfl⟩ <;> (cases ho; exact ⟨by go_simp <;> rfl, al1 _ _⟩)
    refine CW.op (o := ⟨_, _, _, _, _, _⟩) rfl (fun u1 l1 K hK => ?_)
    refine call_by 35 [.tmp 21] #[54] rfl run35 [.agg cs.toArray] rfl (HC.out u1 (KP.out _ l1).b) ?_
    rintro e x1 ⟨y, rfl, ty, b1⟩
    refine ⟨_, rfl, hK.out _ _ b1 ?_⟩
    clear hK K
    simp only [Act.put, sA, sB, sC]
    refine CW.flt rfl (fun u2 u0 l2 _ m0 _ => ?_)
    simp only [Act.put, sA, sB, sC]
    have OT := hid (((TreeD.down SH.out ty).treeF.lt).below l2)
    have RM := hid ((Row.laid u0 (flatM [(o, k, v)]) 73 _ rfl).below m0)
    clear ty
    refine CW.op (o := ⟨_, _, _, _, _, _⟩) rfl (fun u4 l4 K hK => ?_)
    refine call_by 50 [.tmp 22, .tmp 24] #[54, 52] rfl run50 [y.val, .slice (some ⟨u0.heap.size, 0, none⟩) 1 1] rfl (HG.out _ _ _ _ (OT.out.below l4) (RM.out.below l4)) ?_
    rintro e x4 ⟨v1, v2, rfl, t1, t2, b4⟩
    refine ⟨_, rfl, hK.out _ _ b4 ?_⟩
    clear hK K
    simp only [Act.put, sA, sB, sC]
    have GT := hid (And.intro t1.lt (t2.lt (fun h e => by have := flatI_length (giveM (depthT T) T [(o, k, v)]).2; rw [e] at this; simp at this; omega)))
    clear t1 t2 OT RM
    refine CW.op (o := ⟨_, _, _, _, _, _⟩) rfl (fun u5 l5 K hK => ?_)
    refine call_by 49 [.tmp 25] #[95] rfl run49 [.agg #[v1, v2]] rfl (HR.out _ _ _ _ (GT.out.1.below l5) (GT.out.2.below l5)) ?_
    rintro e x5 ⟨r, rfl, t3, b5⟩
    refine ⟨_, rfl, hK.out _ _ b5 ?_⟩
    clear hK K
    simp only [Act.put, sA, sB, sC]
    have TR := hid t3.lt
    clear t3 GT
    refine CW.flt rfl (fun u6 n0 l6 w6 m6 ap => ?_)
    simp only [Act.put, sA, sB, sC]
    refine CW.last (fun u7 l7 K hK => ?_)
    have BX := hid ((Bx.start n0 (cs := zcs) rfl).step (m6.trans l7))
    have RF := hid (TR.out.below (l6.trans l7))
    have IN := hid (KP.out u7 ((w6.trans (al1 _ _)).trans (m6.trans l7)))
    have NN : Hid (w.heap.size + 2 < n0.heap.size) := Nat.lt_of_lt_of_le (KP.out _ (Ltr.refl _)).r.lt w6.size
    have AP := hid ap
    clear TR ap
    refine wp_store_mid 54 _ _ rfl n0.heap.size 0 r.cells.toArray rfl rfl (BX.out.there rfl) (infoT5 r.cells_len) RF.out.treeAt.ones (hK.out _ _ ?_)
    clear hK K
    have hc : Chg (fun b => b = n0.heap.size) u7 (u7.setCells n0.heap.size 0 r.cells) := Chg.setCells (F := fun b => b = n0.heap.size) (g := n0.heap.size) (fun _ => rfl) r.cells 0 u7 (Chg.refl _ _)
    go_wp2_with fail
    go_meet
    case rel =>
     refine ⟨n0.heap.size, r, rfl, BX.out.set rfl, (RF.out.chg hc fun b hb e => ?_).treeAt, IN.out.b.trans (hc.below (fun g _ e => by have := NN.out; omega) IN.out.b.size), ⟨row_chg IN.out.t.1 hc (fun (e : _ = _) => by have := NN.out; omega), IN.out.t.2⟩, row_chg IN.out.m hc (fun (e : _ = _) => by have := NN.out; omega), ⟨row_chg IN.out.r.1 hc (fun (e : _ = _) => by have := NN.out; omega), IN.out.r.2⟩⟩
     have ap := AP.out
     simp only [List.mem_cons, List.not_mem_nil, or_false, forall_eq_or_imp, forall_eq, World.size_alloc] at ap
     obtain ⟨a1, a2, a3, a4⟩ := ap
     subst e
     omega
   case rest =>
    obtain ⟨N, r, rfl, BN, TN, I⟩ := hcut
    go_wp2_with (refine ldT rfl rfl _ rfl N rfl r.cells BN.out ?_)
    refine Calls.mono (specTreeOk_any _ r _ _ TN.out SZ.out) ?_
    rintro e w1 ⟨rfl, b1⟩
    have I1 := hid (I.out.step b1)
    have BN1 := hid (BN.out.step b1)
    have TN1 := hid (TN.out.below b1)
    clear b1 I BN TN
    cases hr : okT (rootOf (giveM (depthT T) T [(o, k, v)]))
    ·have ED : injF T (o, k, v) = T := by rw [EI.out, hr]; rfl
     go_wp2_with (refine ldT rfl rfl _ rfl w.heap.size rfl cs I1.out.t ?_)
     refine Calls.mono (HC.out _ I1.out.b) ?_
     rintro e w2 ⟨y, rfl, TY, b2⟩
     obtain ⟨f1, f2, f3⟩ := put_cells I1.out.r (by omega) I1.out.b b2 TY
     have R1 := hid (And.intro (I1.out.r.step b2) TY.treeF.treeAt.ones)
     have FF := hid (And.intro f1 (And.intro f2 f3))
     clear f1 f2 f3 TY
     go_wp2_with (refine stT rfl rfl _ _ rfl (w.heap.size + 2) y rfl rfl R1.out.1 R1.out.2 ?_)
     generalize w2.setCells (w.heap.size + 2) 0 y.cells = WF at *
     exact ⟨rfl, _, retT Try.results40 _ WF _ y rfl FF.out.1, ⟨y, n, rfl, by rw [ED]; exact FF.out.2.1, FF.out.2.2⟩⟩
    ·have ED : injF T (o, k, v) = rootOf (giveM (depthT T) T [(o, k, v)]) := by rw [EI.out, hr]; rfl
     go_wp2_with (refine ldT rfl rfl _ rfl N rfl r.cells BN1.out ?_)
     refine Calls.mono (copy_all _ r _ _ TN1.out SZ.out) ?_
     rintro e w2 ⟨y, rfl, TY, b2⟩
     obtain ⟨f1, f2, f3⟩ := put_cells I1.out.r (by omega) I1.out.b b2 TY
     have R1 := hid (And.intro (I1.out.r.step b2) TY.treeF.treeAt.ones)
     have FF := hid (And.intro f1 (And.intro f2 f3))
     clear f1 f2 f3 TY
     go_wp2_with (refine stT rfl rfl _ _ rfl (w.heap.size + 2) y rfl rfl R1.out.1 R1.out.2 ?_)
     generalize w2.setCells (w.heap.size + 2) 0 y.cells = WF at *
     exact ⟨rfl, _, retT Try.results40 _ WF _ y rfl FF.out.1, ⟨y, _, rfl, by rw [ED]; exact FF.out.2.1, FF.out.2.2⟩⟩
  ·have ED : injF T (o, k, v) = T := by
    rw [injF, if_neg]
    intro h
    have := HB.out
    simp [h.1, h.2.1, h.2.2] at this
   go_wp2_with (refine ldT rfl rfl _ rfl w.heap.size rfl cs I.out.t ?_)
   refine Calls.mono (HC.out _ I.out.b) ?_
   rintro e w1 ⟨y, rfl, TY, b1⟩
   obtain ⟨f1, f2, f3⟩ := put_cells I.out.r (by omega) I.out.b b1 TY
   have R1 := hid (And.intro (I.out.r.step b1) TY.treeF.treeAt.ones)
   have FF := hid (And.intro f1 (And.intro f2 f3))
   clear f1 f2 f3 TY
   go_wp2_with (refine stT rfl rfl _ _ rfl (w.heap.size + 2) y rfl rfl R1.out.1 R1.out.2 ?_)
   generalize w1.setCells (w.heap.size + 2) 0 y.cells = WF at *
   exact ⟨rfl, _, retT Try.results40 _ WF _ y rfl FF.out.1, ⟨y, n, rfl, by rw [ED]; exact FF.out.2.1, FF.out.2.2⟩⟩
end
section
open Go.RowKit

structure In2 (w : World) (cs : List Value) (V : World) : Prop where
 b : Below w.heap.size w V
 t : Bx V w.heap.size cs
 r : Bx V (w.heap.size + 1) zcs
theorem In2.step {w V u : World} {cs : List Value} (h : In2 w cs V) (k : Below V.heap.size V u) : In2 w cs u := ⟨Below.and h.b k, h.t.step k, h.r.step k⟩
theorem In2.start (w : World) {cs : List Value} (h : cs.length = 5) : In2 w cs ((w.alloc (.cells cs.toArray 54)).alloc (.cells zcs.toArray 54)) := by
 have h4 := Bx.start (w.alloc (.cells cs.toArray 54)) (cs := zcs) rfl
 rw [World.size_alloc] at h4
 exact ⟨al2 _ _ _, (Bx.start w h).step (al1 _ _), h4⟩

theorem specDrain_any (n : Nat) (x : TV) (T : Tr) (w : World) (ht : TreeAt n w x T) (hsz : sizeT n T ≤ 1099511627776) :
  Calls Try.prog 43 #[x.val] w fun e w' => ∃ (y : TV) (N : Nat), e = .returned y.val ∧ TreeD N w' (fun g => w.heap.size ≤ g) y (drnF T) ∧ Below w.heap.size w w' := by
 have HO : Hid (∀ u, Below w.heap.size w u → Calls Try.prog 27 #[.agg x.cells.toArray] u fun e w' => e = .returned (.bool (okT T)) ∧ Below u.heap.size u w') := fun u h => specTreeOk_any n x T u (ht.below h) hsz
 have HC : Hid (∀ u, Below w.heap.size w u → Calls Try.prog 35 #[.agg x.cells.toArray] u fun e w' => ∃ y : TV, e = .returned y.val ∧ TreeD n w' (fun g => u.heap.size ≤ g) y T ∧ Below u.heap.size u w') := fun u h => copy_all n x T u (ht.below h) hsz
 have I0 := hid (In2.start w x.cells_len)
 show Calls Try.prog 43 #[.agg x.cells.toArray] w _
 clear ht
 generalize x.cells = cs at *
 go_enter Try.func43, Try.ntmps43
 go_upto_region 1 with fail
 refine wp_gen (In2 w cs) I0.out ?_
 rintro V IV
 clear I0
 have I := hid IV
 clear IV
 go_wp2_with (refine ldT rfl rfl _ rfl w.heap.size rfl cs I.out.t ?_)
 refine Calls.mono (HO.out _ I.out.b) ?_
 rintro e w1 ⟨rfl, b1⟩
 have I1 := hid (I.out.step b1)
 clear b1 I HO
 cases hok : okT T
 ·have ED : drnF T = T := by rw [drnF, if_neg (by rw [hok]; decide)]
  go_wp2_with (refine ldT rfl rfl _ rfl w.heap.size rfl cs I1.out.t ?_)
  refine Calls.mono (HC.out _ I1.out.b) ?_
  rintro e w2 ⟨y, rfl, TY, b2⟩
  obtain ⟨f1, f2, f3⟩ := put_cells I1.out.r (by omega) I1.out.b b2 TY
  have R1 := hid (And.intro (I1.out.r.step b2) TY.treeF.treeAt.ones)
  have FF := hid (And.intro f1 (And.intro f2 f3))
  clear f1 f2 f3 TY
  go_wp2_with (refine stT rfl rfl _ _ rfl (w.heap.size + 1) y rfl rfl R1.out.1 R1.out.2 ?_)
  generalize w2.setCells (w.heap.size + 1) 0 y.cells = WF at *
  exact ⟨rfl, _, retT Try.results43 _ WF _ y rfl FF.out.1, ⟨y, n, rfl, by rw [ED]; exact FF.out.2.1, FF.out.2.2⟩⟩
 ·obtain ⟨hsh, hd7, hwt⟩ := ok_sh hok
  obtain ⟨e, he1, he2, he3⟩ := drain_root hsh
  obtain ⟨hmo, hmw⟩ := drainM_ok _ _ hsh
  have ED := hid (show drnF T = if okT (rootOf (drainM (depthT T) T)) = true then rootOf (drainM (depthT T) T) else T by rw [drnF, if_pos hok])
  have HD := hid (fun u y (w2 : World) (ty : TreeD n w2 (fun g => u ≤ g) y T) => drain_all (depthT T) (fun g => u ≤ g) y T w2 (TreeD.down hsh ty).treeF hsh (by omega))
  have HR := hid (fun F v1 v2 c h1 h2 => l4Root_any (depthT T) F v1 v2 (drainM (depthT T) T) c h1 h2 hmo (by omega))
  have SZ := hid (Nat.le_trans (sh_size he2 he1) (show _ ≤ 1099511627776 by omega))
  change Hid (sizeT (depthT T + (drainM (depthT T) T).1.length) (rootOf (drainM (depthT T) T)) ≤ _) at SZ
  clear hsh hd7 hwt he1 he2 he3 hmo hmw
  go_wp2_with (refine ldT rfl rfl _ rfl w.heap.size rfl cs I1.out.t ?_)
  refine Calls.mono (HC.out _ I1.out.b) ?_
  rintro e w2 ⟨y, rfl, TY, b2⟩
  have I2 := hid (I1.out.step b2)
  have HD2 := hid (HD.out _ y w2 TY)
  clear TY b2 HD
  go_wp2_with fail
  refine Calls.mono HD2.out ?_
  rintro e w3 ⟨v1, v2, rfl, T3, R3, b3⟩
  have I3 := hid (I2.out.step b3)
  have HR3 := hid (HR.out _ v1 v2 w3 T3 R3)
  clear T3 R3 b3 HD2 HR I1 I2
  go_wp2_with fail
  refine Calls.mono HR3.out ?_
  rintro e w4 ⟨r, rfl, T4, b4⟩
  change TreeF _ w4 _ r (rootOf (drainM (depthT T) T)) at T4
  generalize rootOf (drainM (depthT T) T) = R at *
  have I4 := hid (I3.out.step b4)
  have B5 := hid (Bx.start w4 r.cells_len)
  have A5 := hid (T4.treeAt.below (al1 w4 (.cells r.cells.toArray 54)))
  have I5 := hid (I4.out.step (al1 w4 (.cells r.cells.toArray 54)))
  have HO5 := hid (specTreeOk_any _ r _ _ A5.out SZ.out)
  obtain ⟨ra1, ra2, ra3, ra4, rq1, rq2, rq3, rq4, hyr⟩ := T4.treeAt.shape
  subst hyr
  clear T4 b4 HR3 I3 I4
  go_wp2_with fail
  refine Calls.mono HO5.out ?_
  rintro e w6 ⟨rfl, b6⟩
  have I6 := hid (I5.out.step b6)
  have B6 := hid (B5.out.step b6)
  have A6 := hid (A5.out.below b6)
  clear I5 B5 A5 b6 HO5
  cases hr : okT (R)
  ·have ED2 : drnF T = T := by rw [ED.out, hr]; rfl
   go_wp2_with (refine ldT rfl rfl _ rfl w.heap.size rfl cs I6.out.t ?_)
   refine Calls.mono (HC.out _ I6.out.b) ?_
   rintro e w7 ⟨z, rfl, TY, b7⟩
   obtain ⟨f1, f2, f3⟩ := put_cells I6.out.r (by omega) I6.out.b b7 TY
   have R1 := hid (And.intro (I6.out.r.step b7) TY.treeF.treeAt.ones)
   have FF := hid (And.intro f1 (And.intro f2 f3))
   clear f1 f2 f3 TY
   go_wp2_with (refine stT rfl rfl _ _ rfl (w.heap.size + 1) z rfl rfl R1.out.1 R1.out.2 ?_)
   generalize w7.setCells (w.heap.size + 1) 0 z.cells = WF at *
   exact ⟨rfl, _, retT Try.results43 _ WF _ z rfl FF.out.1, ⟨z, n, rfl, by rw [ED2]; exact FF.out.2.1, FF.out.2.2⟩⟩
  ·have ED2 : drnF T = R := by rw [ED.out, hr]; rfl
   go_wp2_with (refine ldT rfl rfl _ rfl w4.heap.size rfl _ B6.out ?_)
   refine Calls.mono (copy_all _ (⟨_, .slice ra1 _ rq1, .slice ra2 _ rq2, .slice ra3 _ rq3, .slice ra4 _ rq4⟩ : TV) _ _ A6.out SZ.out) ?_
   rintro e w7 ⟨z, rfl, TY, b7⟩
   obtain ⟨f1, f2, f3⟩ := put_cells I6.out.r (by omega) I6.out.b b7 TY
   have R1 := hid (And.intro (I6.out.r.step b7) TY.treeF.treeAt.ones)
   have FF := hid (And.intro f1 (And.intro f2 f3))
   clear f1 f2 f3 TY
   go_wp2_with (refine stT rfl rfl _ _ rfl (w.heap.size + 1) z rfl rfl R1.out.1 R1.out.2 ?_)
   generalize w7.setCells (w.heap.size + 1) 0 z.cells = WF at *
   exact ⟨rfl, _, retT Try.results43 _ WF _ z rfl FF.out.1, ⟨z, _, rfl, by rw [ED2]; exact FF.out.2.1, FF.out.2.2⟩⟩
end
section
open Go.RowKit

theorem MsgEnd.chgC {w : World} {C R M : Nat} {o k v : Int} {W W' : World} (h : MsgEnd w C R M o k v W) (hc : Cur W' C) (hg : Chg (fun g => g = C) W W') : MsgEnd w C R M o k v W' := by
 obtain ⟨a, b, c, hR⟩ := h.hR
 have h1 := h.nC; have h2 := h.rR; have h3 := h.rM
 exact ⟨hc, h.chg.trans hg (fun _ _ e => e), ⟨a, b, c, row_chg hR hg (by omega)⟩, row_chg h.hM hg (by omega), h.rR, h.rM, h.ne, h.nC⟩
theorem MsgEnd.alloc {w : World} {C R M : Nat} {o k v : Int} {W : World} (h : MsgEnd w C R M o k v W) (x : Obj) : MsgEnd w C R M o k v (W.alloc x) := by
 obtain ⟨a, b, c, hR⟩ := h.hR
 exact ⟨h.cur.alloc x, h.chg.alloc x, ⟨a, b, c, by rw [Below.heap_alloc _ _ _ (Array.getElem?_eq_some_iff.1 hR).1]; exact hR⟩, by rw [Below.heap_alloc _ _ _ (Array.getElem?_eq_some_iff.1 h.hM).1]; exact h.hM, h.rR, h.rM, h.ne, h.nC⟩
theorem MsgEnd.set {w : World} {C R M : Nat} {o k v o' k' v' : Int} {W : World} (h : MsgEnd w C R M o k v W) (j : Nat) (x : Value) (hx : (W.setCell ⟨M, j, none⟩ x).heap[M]? = some (.cells #[.int .i64 o', .int .i64 k', .int .i64 v'] 73 (0, 0))) : MsgEnd w C R M o' k' v' (W.setCell ⟨M, j, none⟩ x) := by
 obtain ⟨a, b, c, hR⟩ := h.hR
 have h1 := h.nC; have h2 := h.rR; have h3 := h.rM
 have cM : Chg (fun g => g = M) W (W.setCell ⟨M, j, none⟩ x) := Chg.setAt (F := fun g => g = M) (Chg.refl _ _) _ _ rfl _
 exact ⟨h.cur.chg cM (fun g e => by omega), h.chg.trans cM (fun g hg e => by omega), ⟨a, b, c, row_chg hR cM h.ne⟩, hx, h.rR, h.rM, h.ne, h.nC⟩

theorem l1DrawBad_any (C : Nat) (w : World) (hc : Cur w C) :
  Calls Try.prog 33 #[.pointer (some ⟨C, 0, none⟩)] w fun e w' => ∃ o k v : Int, e = .returned (.agg #[.int .i64 o, .int .i64 k, .int .i64 v]) ∧ Cur w' C ∧ Chg (fun g => g = C) w w' := by
 have hCw := hc.lt
 have CU : Hid (Cur w C) := hc
 clear hc
 go_enter Try.func33, Try.ntmps33
 go_wp2_with fail
 refine (l1DrawMsg_any C _ (CU.out.alloc _)).mono ?_
 rintro e w1 ⟨o, k, v, rfl, c1, g1⟩
 have R1 := row_chg (heap_alloc_new w (.cells #[.int .i64 0, .int .i64 0, .int .i64 0] 73)) g1 (by omega)
 have hsz : w.heap.size < w1.heap.size := (Array.getElem?_eq_some_iff.1 R1).1
 have E0 : Hid (MsgEnd w C w.heap.size w1.heap.size o k v (w1.alloc (.cells #[.int .i64 o, .int .i64 k, .int .i64 v] 73))) :=
  ⟨c1.alloc _, (((Chg.refl _ _).alloc _).trans g1 (fun _ _ e => e)).alloc _, ⟨_, _, _, by rw [Below.heap_alloc _ _ _ hsz]; exact R1⟩, heap_alloc_new _ _, Nat.le_refl _, by omega, by omega, hCw⟩
 clear c1 g1 R1
 go_wp2_with fail
 refine (l1Below_any C 15 _ E0.out.cur (by decide)).mono ?_
 rintro e w2 ⟨x, rfl, hx0, hx1, _, c2, g2⟩
 have E2 : Hid (MsgEnd w C w.heap.size w1.heap.size o k v w2) := E0.out.chgC c2 g2
 clear c2 g2 hx1 E0
 rcases (show x = 0 ∨ x = 1 ∨ x = 2 ∨ 3 ≤ x by omega) with rfl | rfl | rfl | h3
 ·go_wp2_with fail
  refine (l1Below_any C 7 _ E2.out.cur (by decide)).mono ?_
  rintro e w3 ⟨y, rfl, hy0, hy1, _, c3, g3⟩
  have hy7 := hy1 (by decide)
  have E3 := E2.out.chgC c3 g3
  obtain ⟨⟨a0, a1, a2⟩, b0, b1, b2⟩ := at3 E3.hM
  have hs := set31 (.int .i64 (y - 1)) E3.hM
  have E4 := E3.set 0 _ hs
  obtain ⟨⟨m0, m1, m2⟩, n0, n1, n2⟩ := at3 hs
  obtain ⟨ra, rb, rc, hRR⟩ := E4.hR
  obtain ⟨⟨r0, r1, r2⟩, t0, t1, t2⟩ := at3 hRR
  have FIN : Hid _ := E4.fin
  clear c3 g3 E3 hs E4 hy1 hRR
  go_wp2
  obtain ⟨⟨k1, k2⟩, q0, q1, q2⟩ := FIN.out
  exact bodyPost_ret (v := .agg #[.int .i64 (y - 1), .int .i64 k, .int .i64 v]) (by simp [results, Try.results33, go_sem, q0, q1, q2]) rfl ⟨_, _, _, rfl, k1, k2⟩
 ·have hs2 : w1.heap.size < w2.heap.size := (Array.getElem?_eq_some_iff.1 E2.out.hM).1
  have hd : C ≠ w2.heap.size := by have := E2.out.cur.lt; omega
  go_wp2_with fail
  refine (l1PickInt_any C w2.heap.size [-1, 1000] (by decide) (by decide) _ (E2.out.alloc _).cur (heap_alloc_new _ _) (fun e => hd e.symm)).mono ?_
  rintro e w3 ⟨y, rfl, _, c3, g3⟩
  have E3 := (E2.out.alloc _).chgC c3 g3
  obtain ⟨⟨a0, a1, a2⟩, b0, b1, b2⟩ := at3 E3.hM
  have hs := set32 (.int .i64 y) E3.hM
  have E4 := E3.set 1 _ hs
  obtain ⟨⟨m0, m1, m2⟩, n0, n1, n2⟩ := at3 hs
  obtain ⟨ra, rb, rc, hRR⟩ := E4.hR
  obtain ⟨⟨r0, r1, r2⟩, t0, t1, t2⟩ := at3 hRR
  have FIN : Hid _ := E4.fin
  clear c3 g3 E3 hs E4 hRR
  go_wp2
  obtain ⟨⟨k1, k2⟩, q0, q1, q2⟩ := FIN.out
  exact bodyPost_ret (v := .agg #[.int .i64 o, .int .i64 y, .int .i64 v]) (by simp [results, Try.results33, go_sem, q0, q1, q2]) rfl ⟨_, _, _, rfl, k1, k2⟩
 ·have hs2 : w1.heap.size < w2.heap.size := (Array.getElem?_eq_some_iff.1 E2.out.hM).1
  have hd : C ≠ w2.heap.size := by have := E2.out.cur.lt; omega
  go_wp2_with fail
  refine (l1PickInt_any C w2.heap.size [1000000001, 3] (by decide) (by decide) _ (E2.out.alloc _).cur (heap_alloc_new _ _) (fun e => hd e.symm)).mono ?_
  rintro e w3 ⟨y, rfl, _, c3, g3⟩
  have E3 := (E2.out.alloc _).chgC c3 g3
  obtain ⟨⟨a0, a1, a2⟩, b0, b1, b2⟩ := at3 E3.hM
  have hs := set3 (.int .i64 y) E3.hM
  have E4 := E3.set 2 _ hs
  obtain ⟨⟨m0, m1, m2⟩, n0, n1, n2⟩ := at3 hs
  obtain ⟨ra, rb, rc, hRR⟩ := E4.hR
  obtain ⟨⟨r0, r1, r2⟩, t0, t1, t2⟩ := at3 hRR
  have FIN : Hid _ := E4.fin
  clear c3 g3 E3 hs E4 hRR
  go_wp2
  obtain ⟨⟨k1, k2⟩, q0, q1, q2⟩ := FIN.out
  exact bodyPost_ret (v := .agg #[.int .i64 o, .int .i64 k, .int .i64 y]) (by simp [results, Try.results33, go_sem, q0, q1, q2]) rfl ⟨_, _, _, rfl, k1, k2⟩
 ·have e0 : (x == 0) = false := by rw [beq_eq_false_iff_ne]; omega
  have e1 : (x == 1) = false := by rw [beq_eq_false_iff_ne]; omega
  have e2 : (x == 2) = false := by rw [beq_eq_false_iff_ne]; omega
  obtain ⟨⟨m0, m1, m2⟩, n0, n1, n2⟩ := at3 E2.out.hM
  obtain ⟨ra, rb, rc, hRR⟩ := E2.out.hR
  obtain ⟨⟨r0, r1, r2⟩, t0, t1, t2⟩ := at3 hRR
  have FIN : Hid _ := E2.out.fin
  go_wp2
  obtain ⟨⟨k1, k2⟩, q0, q1, q2⟩ := FIN.out
  exact bodyPost_ret (v := .agg #[.int .i64 o, .int .i64 k, .int .i64 v]) (by simp [results, Try.results33, go_sem, q0, q1, q2]) rfl ⟨_, _, _, rfl, k1, k2⟩
end
end Go.Proofs.Ytekcnibohikmdaa
