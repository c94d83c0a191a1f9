/-
  The laws' functions that write marks into a node, and look for them.
  MachineOk of the model.
-/
import Derived.Test.YtmdajbbpigbdcaaGreatOfFeed24
import Derived.Test.YtmdajbbpigbdcaaGreatOfFeed25
import Derived.Test.YtmdajbbpigbdcaaGreatOfFeed4
import Derived.Test.YtmdajbbpigbdcaaGreatOfFeed9
import Derived.BigQuiet
import Derived.Deep.DeepCutAuto
import Derived.Deep.CutBlock
import Derived.Deep.QuietTactic
namespace Go.Proofs.YtmdajbbpigbdcaaGreat
set_option maxRecDepth 100000
set_option maxHeartbeats 8000000
section
open Go.RowKit

theorem markLog_g (b t : Int) (v : Value) (l : EL) (lo : Nat) (k : Int) (w : World) (h : OwnE w lo 113 6 v l.length (flatE l)) (hn : l.length ≤ 67108864) (hk0 : 0 ≤ k) (hk1 : k ≤ 671088640) :
    Calls Tryz.prog 36 #[lgV b t v, .int .i64 k] w fun e w' => e = .returned (.int .i64 (k + 6 * l.length)) ∧ OwnE w' lo 113 6 v l.length (flatE (marksE k l.length)) ∧ Chg (fun g => wrB v g) w w' := by
  have B1 : Hid (Below w.heap.size w (w.alloc (.cells #[.int .i64 b, .int .i64 t, v] 40))) := bel_nw _ _
  have N1 := hid9c (MBox.start 40 w #[.int .i64 b, .int .i64 t, v])
  have c1 := N1.out.cells
  have C1 := hid9c (markEntryS_g lo v l k (w.alloc (.cells #[.int .i64 b, .int .i64 t, v] 40)) (h.below B1.out) hn hk0 hk1)
  have CH : Hid (Chg (fun g => wrB v g) w (w.alloc (.cells #[.int .i64 b, .int .i64 t, v] 40))) := (Chg.refl _ _).alloc _
  obtain ⟨a, cap, hv⟩ := h.slice
  clear h hv
  go_enter Tryz.func36, Tryz.ntmps36
  go_wp2_with fail
  generalize w.alloc (.cells #[.int .i64 b, .int .i64 t, v] 40) = W at *
  refine C1.out.mono ?_
  rintro e w1 ⟨rfl, o1, g1⟩
  have FIN : Hid _ := And.intro o1 (CH.out.trans g1 (fun g _ hg => hg))
  clear o1 g1 c1 C1 CH N1 B1
  go_wp2
  go_ret
  exact ⟨rfl, FIN.out⟩

def markD (n : Nat) (k : Int) (D : Nd) : Nd :=
  ⟨marksE k D.l.length, markTr n (k + 6 * D.l.length) D.T1, marksD (k + 6 * D.l.length + (mkT n D.T1 : Nat)) D.d1.length,
   marksL (k + 6 * D.l.length + (mkT n D.T1 : Nat) + 4 * D.d1.length) D.vs.length,
   marksI (k + 6 * D.l.length + (mkT n D.T1 : Nat) + 4 * D.d1.length + D.vs.length) D.nx.length,
   marksI (k + 6 * D.l.length + (mkT n D.T1 : Nat) + 4 * D.d1.length + D.vs.length + D.nx.length) D.mt.length,
   markTr n (k + 6 * D.l.length + (mkT n D.T1 : Nat) + 4 * D.d1.length + D.vs.length + D.nx.length + D.mt.length) D.T2,
   marksD (k + 6 * D.l.length + (mkT n D.T1 : Nat) + 4 * D.d1.length + D.vs.length + D.nx.length + D.mt.length + (mkT n D.T2 : Nat)) D.d2.length⟩
def NodDh (n : Nat) (w : World) (lo hi : Nat) (N : NodV) (D : Nd) : Prop :=
  ∃ c1 c2 c3 c4 c5 c6 : Nat, lo ≤ c1 ∧ c1 ≤ c2 ∧ c2 ≤ c3 ∧ c3 ≤ c4 ∧ c4 ≤ c5 ∧ c5 ≤ c6 ∧ c6 ≤ hi ∧ hi ≤ w.heap.size ∧
    OwnI w lo c1 113 6 N.lv D.l.length (flatE D.l) ∧ MacI n w c1 c2 N.s D.T1 D.d1 ∧ OwnI w c2 c3 4 1 N.vv D.vs.length (flatL D.vs) ∧ OwnI w c3 c4 3 1 N.nv D.nx.length (flatI D.nx) ∧ OwnI w c4 c5 3 1 N.mv D.mt.length (flatI D.mt) ∧ MacI n w c5 c6 N.o D.T2 D.d2
theorem NodD.h {n : Nat} {w : World} {lo : Nat} {N : NodV} {D : Nd} (h : NodD n w lo N D) : NodDh n w lo w.heap.size N D := by
  obtain ⟨c1, c2, c3, c4, c5, c6, h1, h2, h3, h4, h5, h6, h7, o⟩ := h
  exact ⟨c1, c2, c3, c4, c5, c6, h1, h2, h3, h4, h5, h6, h7, Nat.le_refl _, o⟩
theorem NodDh.d {n : Nat} {w : World} {lo hi : Nat} {N : NodV} {D : Nd} (h : NodDh n w lo hi N D) : NodD n w lo N D := by
  obtain ⟨c1, c2, c3, c4, c5, c6, h1, h2, h3, h4, h5, h6, h7, h8, o⟩ := h
  exact ⟨c1, c2, c3, c4, c5, c6, h1, h2, h3, h4, h5, h6, Nat.le_trans h7 h8, o⟩
theorem NodDh.at {n : Nat} {w : World} {lo hi : Nat} {N : NodV} {D : Nd} (h : NodDh n w lo hi N D) : NodAt n w N D := h.d.at
theorem NodDh.chg {n : Nat} {w w' : World} {P : Nat → Prop} {lo hi : Nat} {N : NodV} {D : Nd} (h : NodDh n w lo hi N D) (hc : Chg P w w') (hP : ∀ g, lo ≤ g → g < hi → ¬ P g) : NodDh n w' lo hi N D := by
  obtain ⟨c1, c2, c3, c4, c5, c6, h1, h2, h3, h4, h5, h6, h7, h8, o1, o2, o3, o4, o5, o6⟩ := h
  exact ⟨c1, c2, c3, c4, c5, c6, h1, h2, h3, h4, h5, h6, h7, Nat.le_trans h8 hc.size, o1.chg hc (fun g a b => hP g (by omega) (by omega)), o2.chg hc (fun g a b => hP g (by omega) (by omega)), o3.chg hc (fun g a b => hP g (by omega) (by omega)), o4.chg hc (fun g a b => hP g (by omega) (by omega)), o5.chg hc (fun g a b => hP g (by omega) (by omega)), o6.chg hc (fun g a b => hP g (by omega) (by omega))⟩
theorem NodDh.below {n : Nat} {w w' : World} {lo hi : Nat} {N : NodV} {D : Nd} (h : NodDh n w lo hi N D) (hb : Below w.heap.size w w') : NodDh n w' lo hi N D := h.chg (Chg.of_below (F := fun _ => False) hb) (fun _ _ _ e => e)
def markK (n : Nat) (k : Int) (D : Nd) : Int := k + 6 * D.l.length + (mkT n D.T1 : Nat) + 4 * D.d1.length + D.vs.length + D.nx.length + D.mt.length + (mkT n D.T2 : Nat) + 4 * D.d2.length

theorem markNode_d (n : Nat) (N : NodV) (D : Nd) (lo hi : Nat) (k : Int) (w : World) (h : NodDh n w lo hi N D) (hk0 : 0 ≤ k) (hk1 : markK n k D ≤ 67108864) :
    Calls Tryz.prog 10 #[N.val, .int .i64 k] w fun e w' => e = .returned (.int .i64 (markK n k D)) ∧ NodDh n w' lo hi N (markD n k D) ∧ Chg (fun g => lo ≤ g ∧ g < hi) w w' := by
  unfold markK at *
  obtain ⟨id, te, vo, lb, lt, lv, ⟨⟨sl, sp, sc, sk, sb⟩, sv⟩, ro, vv, nv, mv, cm, ⟨⟨ol, op, oc, ok, ob⟩, ov⟩⟩ := N
  obtain ⟨l, T1, d1, vs, nx, mt, T2, d2⟩ := D
  obtain ⟨e1, e2, e3, e4, e5, e6, h1, h2, h3, h4, h5, h6, h8, h9, o1, o2, o3, o4, o5, o6⟩ := h
  have h7 : e6 ≤ w.heap.size := Nat.le_trans h8 h9
  simp only at hk1 o1 o2 o3 o4 o5 o6 ⊢
  have P1 : Hid (∀ u, OwnI u lo e1 113 6 lv l.length (flatE l) → Calls Tryz.prog 36 #[lgV lb lt lv, .int .i64 k] u fun e w' => e = .returned (.int .i64 (k + 6 * l.length)) ∧ OwnI w' lo e1 113 6 lv l.length (flatE (marksE k l.length)) ∧ Chg (fun g => lo ≤ g ∧ g < e1) u w') := fun u hu => (markLog_g lb lt lv l lo k u hu.1 (by omega) hk0 (by omega)).mono (fun e w' ⟨a, b, c⟩ => ⟨a, ⟨b, hu.2⟩, c.mono (fun g _ hg => ⟨(hu.1.lt g hg).1, hu.2 g hg⟩)⟩)
  have P2 : Hid (∀ u, e2 ≤ u.heap.size → MacI n u e1 e2 ⟨⟨sl, sp, sc, sk, sb⟩, sv⟩ T1 d1 → Calls Tryz.prog 37 #[.agg #[.bool sl, sp, sc, sk, sb, sv], .int .i64 (k + 6 * l.length)] u fun e w' => e = .returned (.int .i64 (k + 6 * l.length + (mkT n T1 : Nat) + 4 * d1.length)) ∧ MacI n w' e1 e2 ⟨⟨sl, sp, sc, sk, sb⟩, sv⟩ (markTr n (k + 6 * l.length) T1) (marksD (k + 6 * l.length + (mkT n T1 : Nat)) d1.length) ∧ Chg (fun g => e1 ≤ g ∧ g < e2) u w') := fun u hs hu => markMachine_d n ⟨⟨sl, sp, sc, sk, sb⟩, sv⟩ T1 d1 _ (k + 6 * l.length) u hu (fun g hg => by omega) (by omega) (by omega)
  have P3 : Hid (∀ u, OwnI u e2 e3 4 1 vv vs.length (flatL vs) → Calls Tryz.prog 38 #[vv, .int .i64 (k + 6 * l.length + (mkT n T1 : Nat) + 4 * d1.length)] u fun e w' => e = .returned (.int .i64 (k + 6 * l.length + (mkT n T1 : Nat) + 4 * d1.length + vs.length)) ∧ OwnI w' e2 e3 4 1 vv vs.length (flatL (marksL (k + 6 * l.length + (mkT n T1 : Nat) + 4 * d1.length) vs.length)) ∧ Chg (fun g => e2 ≤ g ∧ g < e3) u w') := fun u hu => (markBoolS_g e2 vv vs _ u hu.1 (by omega) (by omega) (by omega)).mono (fun e w' ⟨a, b, c⟩ => ⟨a, ⟨b, hu.2⟩, c.mono (fun g _ hg => ⟨(hu.1.lt g hg).1, hu.2 g hg⟩)⟩)
  have P4 : Hid (∀ u, OwnI u e3 e4 3 1 nv nx.length (flatI nx) → Calls Tryz.prog 39 #[nv, .int .i64 (k + 6 * l.length + (mkT n T1 : Nat) + 4 * d1.length + vs.length)] u fun e w' => e = .returned (.int .i64 (k + 6 * l.length + (mkT n T1 : Nat) + 4 * d1.length + vs.length + nx.length)) ∧ OwnI w' e3 e4 3 1 nv nx.length (flatI (marksI (k + 6 * l.length + (mkT n T1 : Nat) + 4 * d1.length + vs.length) nx.length)) ∧ Chg (fun g => e3 ≤ g ∧ g < e4) u w') := fun u hu => (markIntS_g e3 nv nx _ u hu.1 (by omega) (by omega) (by omega)).mono (fun e w' ⟨a, b, c⟩ => ⟨a, ⟨b, hu.2⟩, c.mono (fun g _ hg => ⟨(hu.1.lt g hg).1, hu.2 g hg⟩)⟩)
  have P5 : Hid (∀ u, OwnI u e4 e5 3 1 mv mt.length (flatI mt) → Calls Tryz.prog 39 #[mv, .int .i64 (k + 6 * l.length + (mkT n T1 : Nat) + 4 * d1.length + vs.length + nx.length)] u fun e w' => e = .returned (.int .i64 (k + 6 * l.length + (mkT n T1 : Nat) + 4 * d1.length + vs.length + nx.length + mt.length)) ∧ OwnI w' e4 e5 3 1 mv mt.length (flatI (marksI (k + 6 * l.length + (mkT n T1 : Nat) + 4 * d1.length + vs.length + nx.length) mt.length)) ∧ Chg (fun g => e4 ≤ g ∧ g < e5) u w') := fun u hu => (markIntS_g e4 mv mt _ u hu.1 (by omega) (by omega) (by omega)).mono (fun e w' ⟨a, b, c⟩ => ⟨a, ⟨b, hu.2⟩, c.mono (fun g _ hg => ⟨(hu.1.lt g hg).1, hu.2 g hg⟩)⟩)
  have P6 : Hid (∀ u, e6 ≤ u.heap.size → MacI n u e5 e6 ⟨⟨ol, op, oc, ok, ob⟩, ov⟩ T2 d2 → Calls Tryz.prog 37 #[.agg #[.bool ol, op, oc, ok, ob, ov], .int .i64 (k + 6 * l.length + (mkT n T1 : Nat) + 4 * d1.length + vs.length + nx.length + mt.length)] u fun e w' => e = .returned (.int .i64 (k + 6 * l.length + (mkT n T1 : Nat) + 4 * d1.length + vs.length + nx.length + mt.length + (mkT n T2 : Nat) + 4 * d2.length)) ∧ MacI n w' e5 e6 ⟨⟨ol, op, oc, ok, ob⟩, ov⟩ (markTr n (k + 6 * l.length + (mkT n T1 : Nat) + 4 * d1.length + vs.length + nx.length + mt.length) T2) (marksD (k + 6 * l.length + (mkT n T1 : Nat) + 4 * d1.length + vs.length + nx.length + mt.length + (mkT n T2 : Nat)) d2.length) ∧ Chg (fun g => e5 ≤ g ∧ g < e6) u w') := fun u hs hu => markMachine_d n ⟨⟨ol, op, oc, ok, ob⟩, ov⟩ T2 d2 _ (k + 6 * l.length + (mkT n T1 : Nat) + 4 * d1.length + vs.length + nx.length + mt.length) u hu (fun g hg => by omega) (by omega) (by omega)
  obtain ⟨av, qv, hvv, -⟩ := o3.row.len
  obtain ⟨an, qn, hnv, -⟩ := o4.row.len
  obtain ⟨am, qm, hmv, -⟩ := o5.row.len
  clear hvv hnv hmv
  have E1 : Hid (lo ≤ e1 ∧ e1 ≤ e2 ∧ e2 ≤ e3 ∧ e3 ≤ e4 ∧ e4 ≤ e5 ∧ e5 ≤ e6 ∧ e6 ≤ w.heap.size ∧ e6 ≤ hi ∧ hi ≤ w.heap.size) := ⟨h1, h2, h3, h4, h5, h6, h7, h8, h9⟩
  have B1 : Below w.heap.size w (w.alloc (.cells #[.int .i64 id, .int .i64 te, .int .i64 vo, .int .i64 lb, .int .i64 lt, lv, .bool sl, sp, sc, sk, sb, sv, .int .i64 ro, vv, nv, mv, .int .i64 cm, .bool ol, op, oc, ok, ob, ov] 50)) := bel_nw _ _
  have O1 := hid9c (o1.below B1)
  have O2 := hid9c (o2.below B1)
  have O3 := hid9c (o3.below B1)
  have O4 := hid9c (o4.below B1)
  have O5 := hid9c (o5.below B1)
  have O6 := hid9c (o6.below B1)
  have SZ : Hid (e6 ≤ (w.alloc (.cells #[.int .i64 id, .int .i64 te, .int .i64 vo, .int .i64 lb, .int .i64 lt, lv, .bool sl, sp, sc, sk, sb, sv, .int .i64 ro, vv, nv, mv, .int .i64 cm, .bool ol, op, oc, ok, ob, ov] 50)).heap.size) := Nat.le_trans h7 B1.size
  have N1 : Hid ((w.alloc (.cells #[.int .i64 id, .int .i64 te, .int .i64 vo, .int .i64 lb, .int .i64 lt, lv, .bool sl, sp, sc, sk, sb, sv, .int .i64 ro, vv, nv, mv, .int .i64 cm, .bool ol, op, oc, ok, ob, ov] 50)).heap[w.heap.size]? = some (.cells #[.int .i64 id, .int .i64 te, .int .i64 vo, .int .i64 lb, .int .i64 lt, lv, .bool sl, sp, sc, sk, sb, sv, .int .i64 ro, vv, nv, mv, .int .i64 cm, .bool ol, op, oc, ok, ob, ov] 50 (0, 0))) := MBox.start 50 w #[.int .i64 id, .int .i64 te, .int .i64 vo, .int .i64 lb, .int .i64 lt, lv, .bool sl, sp, sc, sk, sb, sv, .int .i64 ro, vv, nv, mv, .int .i64 cm, .bool ol, op, oc, ok, ob, ov]
  have CH : Hid (Chg (fun g => lo ≤ g ∧ g < hi) w (w.alloc (.cells #[.int .i64 id, .int .i64 te, .int .i64 vo, .int .i64 lb, .int .i64 lt, lv, .bool sl, sp, sc, sk, sb, sv, .int .i64 ro, vv, nv, mv, .int .i64 cm, .bool ol, op, oc, ok, ob, ov] 50))) := (Chg.refl _ _).alloc _
  clear h1 h2 h3 h4 h5 h6 h7 h8 h9 o1 o2 o3 o4 o5 o6 B1 hk0 hk1
  have c1 := fun j => cell_of_cells (j := j) N1.out
  generalize hq6 : k + 6 * l.length + (mkT n T1 : Nat) + 4 * d1.length + vs.length + nx.length + mt.length + (mkT n T2 : Nat) + 4 * d2.length = r6 at *
  generalize hq5 : k + 6 * l.length + (mkT n T1 : Nat) + 4 * d1.length + vs.length + nx.length + mt.length = r5 at *
  generalize hq4 : k + 6 * l.length + (mkT n T1 : Nat) + 4 * d1.length + vs.length + nx.length = r4 at *
  generalize hq3 : k + 6 * l.length + (mkT n T1 : Nat) + 4 * d1.length + vs.length = r3 at *
  generalize hq2 : k + 6 * l.length + (mkT n T1 : Nat) + 4 * d1.length = r2 at *
  generalize hq1 : k + 6 * l.length = r1 at *
  have HQ1 := hid9c hq1
  have HQ2 := hid9c hq2
  have HQ3 := hid9c hq3
  have HQ4 := hid9c hq4
  have HQ5 := hid9c hq5
  have HQ6 := hid9c hq6
  clear hq1 hq2 hq3 hq4 hq5 hq6
  show Calls Tryz.prog 10 #[.agg #[.int .i64 id, .int .i64 te, .int .i64 vo, .int .i64 lb, .int .i64 lt, lv, .bool sl, sp, sc, sk, sb, sv, .int .i64 ro, vv, nv, mv, .int .i64 cm, .bool ol, op, oc, ok, ob, ov], .int .i64 k] w _
  go_enter Tryz.func10, Tryz.ntmps10
  go_wp2_with fail
  generalize w.alloc (.cells #[.int .i64 id, .int .i64 te, .int .i64 vo, .int .i64 lb, .int .i64 lt, lv, .bool sl, sp, sc, sk, sb, sv, .int .i64 ro, vv, nv, mv, .int .i64 cm, .bool ol, op, oc, ok, ob, ov] 50) = W at *
  refine (P1.out _ O1.out).mono ?_
  rintro e w1 ⟨rfl, o, g⟩
  have q := E1.out
  replace SZ := hid9c (Nat.le_trans SZ.out g.size)
  replace O1 := hid9c o
  replace O2 := hid9c (O2.out.chg g (fun x a b c => by omega))
  replace O3 := hid9c (O3.out.chg g (fun x a b c => by omega))
  replace O4 := hid9c (O4.out.chg g (fun x a b c => by omega))
  replace O5 := hid9c (O5.out.chg g (fun x a b c => by omega))
  replace O6 := hid9c (O6.out.chg g (fun x a b c => by omega))
  replace N1 := hid9c (row_chg N1.out g (fun c => by omega))
  replace CH := hid9c (CH.out.trans g (fun x _ c => by omega))
  clear o g q c1
  have c1 := fun j => cell_of_cells (j := j) N1.out
  go_wp2_with fail
  refine (P2.out _ (by have q := E1.out; have s := SZ.out; omega) O2.out).mono ?_
  rintro e w2 ⟨rfl, o, g⟩
  have q := E1.out
  replace SZ := hid9c (Nat.le_trans SZ.out g.size)
  replace O1 := hid9c (O1.out.chg g (fun x a b c => by omega))
  replace O2 := hid9c o
  replace O3 := hid9c (O3.out.chg g (fun x a b c => by omega))
  replace O4 := hid9c (O4.out.chg g (fun x a b c => by omega))
  replace O5 := hid9c (O5.out.chg g (fun x a b c => by omega))
  replace O6 := hid9c (O6.out.chg g (fun x a b c => by omega))
  replace N1 := hid9c (row_chg N1.out g (fun c => by omega))
  replace CH := hid9c (CH.out.trans g (fun x _ c => by omega))
  clear o g q c1
  have c1 := fun j => cell_of_cells (j := j) N1.out
  go_wp2_with fail
  refine (P3.out _ O3.out).mono ?_
  rintro e w3 ⟨rfl, o, g⟩
  have q := E1.out
  replace SZ := hid9c (Nat.le_trans SZ.out g.size)
  replace O1 := hid9c (O1.out.chg g (fun x a b c => by omega))
  replace O2 := hid9c (O2.out.chg g (fun x a b c => by omega))
  replace O3 := hid9c o
  replace O4 := hid9c (O4.out.chg g (fun x a b c => by omega))
  replace O5 := hid9c (O5.out.chg g (fun x a b c => by omega))
  replace O6 := hid9c (O6.out.chg g (fun x a b c => by omega))
  replace N1 := hid9c (row_chg N1.out g (fun c => by omega))
  replace CH := hid9c (CH.out.trans g (fun x _ c => by omega))
  clear o g q c1
  have c1 := fun j => cell_of_cells (j := j) N1.out
  go_wp2_with fail
  refine (P4.out _ O4.out).mono ?_
  rintro e w4 ⟨rfl, o, g⟩
  have q := E1.out
  replace SZ := hid9c (Nat.le_trans SZ.out g.size)
  replace O1 := hid9c (O1.out.chg g (fun x a b c => by omega))
  replace O2 := hid9c (O2.out.chg g (fun x a b c => by omega))
  replace O3 := hid9c (O3.out.chg g (fun x a b c => by omega))
  replace O4 := hid9c o
  replace O5 := hid9c (O5.out.chg g (fun x a b c => by omega))
  replace O6 := hid9c (O6.out.chg g (fun x a b c => by omega))
  replace N1 := hid9c (row_chg N1.out g (fun c => by omega))
  replace CH := hid9c (CH.out.trans g (fun x _ c => by omega))
  clear o g q c1
  have c1 := fun j => cell_of_cells (j := j) N1.out
  go_wp2_with fail
  refine (P5.out _ O5.out).mono ?_
  rintro e w5 ⟨rfl, o, g⟩
  have q := E1.out
  replace SZ := hid9c (Nat.le_trans SZ.out g.size)
  replace O1 := hid9c (O1.out.chg g (fun x a b c => by omega))
  replace O2 := hid9c (O2.out.chg g (fun x a b c => by omega))
  replace O3 := hid9c (O3.out.chg g (fun x a b c => by omega))
  replace O4 := hid9c (O4.out.chg g (fun x a b c => by omega))
  replace O5 := hid9c o
  replace O6 := hid9c (O6.out.chg g (fun x a b c => by omega))
  replace N1 := hid9c (row_chg N1.out g (fun c => by omega))
  replace CH := hid9c (CH.out.trans g (fun x _ c => by omega))
  clear o g q c1
  have c1 := fun j => cell_of_cells (j := j) N1.out
  go_wp2_with fail
  refine (P6.out _ (by have q := E1.out; have s := SZ.out; omega) O6.out).mono ?_
  rintro e w6 ⟨rfl, o, g⟩
  have q := E1.out
  replace SZ := hid9c (Nat.le_trans SZ.out g.size)
  replace O1 := hid9c (O1.out.chg g (fun x a b c => by omega))
  replace O2 := hid9c (O2.out.chg g (fun x a b c => by omega))
  replace O3 := hid9c (O3.out.chg g (fun x a b c => by omega))
  replace O4 := hid9c (O4.out.chg g (fun x a b c => by omega))
  replace O5 := hid9c (O5.out.chg g (fun x a b c => by omega))
  replace O6 := hid9c o
  replace N1 := hid9c (row_chg N1.out g (fun c => by omega))
  replace CH := hid9c (CH.out.trans g (fun x _ c => by omega))
  clear o g q c1
  have c1 := fun j => cell_of_cells (j := j) N1.out
  go_wp2
  go_ret
  refine ⟨rfl, ?_, CH.out⟩
  obtain ⟨h1, h2, h3, h4, h5, h6, h7, h8, h9⟩ := E1.out
  refine ⟨e1, e2, e3, e4, e5, e6, h1, h2, h3, h4, h5, h6, h8, Nat.le_trans h9 CH.out.size, ?_, ?_, ?_, ?_, ?_, ?_⟩
  · show OwnI _ _ _ _ _ _ (marksE k l.length).length (flatE (marksE k l.length))
    rw [marksE_length]
    exact O1.out
  · show MacI _ _ _ _ _ (markTr n (k + 6 * l.length) T1) (marksD (k + 6 * l.length + (mkT n T1 : Nat)) d1.length)
    rw [HQ1.out]
    exact O2.out
  · show OwnI _ _ _ _ _ _ (marksL (k + 6 * l.length + (mkT n T1 : Nat) + 4 * d1.length) vs.length).length (flatL (marksL (k + 6 * l.length + (mkT n T1 : Nat) + 4 * d1.length) vs.length))
    rw [marksL_length, HQ1.out, HQ2.out]
    exact O3.out
  · show OwnI _ _ _ _ _ _ (marksI (k + 6 * l.length + (mkT n T1 : Nat) + 4 * d1.length + vs.length) nx.length).length (flatI (marksI (k + 6 * l.length + (mkT n T1 : Nat) + 4 * d1.length + vs.length) nx.length))
    rw [marksI_length, HQ1.out, HQ2.out, HQ3.out]
    exact O4.out
  · show OwnI _ _ _ _ _ _ (marksI (k + 6 * l.length + (mkT n T1 : Nat) + 4 * d1.length + vs.length + nx.length) mt.length).length (flatI (marksI (k + 6 * l.length + (mkT n T1 : Nat) + 4 * d1.length + vs.length + nx.length) mt.length))
    rw [marksI_length, HQ1.out, HQ2.out, HQ3.out, HQ4.out]
    exact O5.out
  · show MacI _ _ _ _ _ (markTr n (k + 6 * l.length + (mkT n T1 : Nat) + 4 * d1.length + vs.length + nx.length + mt.length) T2) (marksD (k + 6 * l.length + (mkT n T1 : Nat) + 4 * d1.length + vs.length + nx.length + mt.length + (mkT n T2 : Nat)) d2.length)
    rw [HQ1.out, HQ2.out, HQ3.out, HQ4.out, HQ5.out]
    exact O6.out
end
section
open Go.RowKit

def doneAt (l : DL) (k : Nat) : Bool := inB (dC l k) 1 9 && inB (dS l k) 1 100000 && inB (dV l k) (-1000000000) 1000000000 && (k == 0 || decide (dC l (k - 1) < dC l k))
def donesOk (l : DL) : Bool := (List.range l.length).all (doneAt l)
theorem donesOk_true {l : DL} (h : ∀ k, k < l.length → doneAt l k = true) : donesOk l = true := by
 unfold donesOk; rw [List.all_eq_true]; intro k hk; exact h k (List.mem_range.1 hk)
theorem donesOk_false {l : DL} {k : Nat} (hk : k < l.length) (h : doneAt l k = false) : donesOk l = false := by
 unfold donesOk; rw [List.all_eq_false]; exact ⟨k, List.mem_range.2 hk, by simp [h]⟩
theorem doneAt_c {l : DL} {k : Nat} (h : inB (dC l k) 1 9 = false) : doneAt l k = false := by simp [doneAt, h]
theorem doneAt_s {l : DL} {k : Nat} (h : inB (dS l k) 1 100000 = false) : doneAt l k = false := by simp [doneAt, h]
theorem doneAt_v {l : DL} {k : Nat} (h : inB (dV l k) (-1000000000) 1000000000 = false) : doneAt l k = false := by simp [doneAt, h]
theorem doneAt_zero {l : DL} (h1 : inB (dC l 0) 1 9 = true) (h2 : inB (dS l 0) 1 100000 = true) (h3 : inB (dV l 0) (-1000000000) 1000000000 = true) : doneAt l 0 = true := by simp [doneAt, h1, h2, h3]
theorem doneAt_succ {l : DL} {k : Nat} (h1 : inB (dC l (k + 1)) 1 9 = true) (h2 : inB (dS l (k + 1)) 1 100000 = true) (h3 : inB (dV l (k + 1)) (-1000000000) 1000000000 = true) (h : dC l k < dC l (k + 1)) : doneAt l (k + 1) = true := by simp [doneAt, h1, h2, h3, h]
theorem doneAt_lt {l : DL} {k : Nat} (h : ¬ dC l k < dC l (k + 1)) : doneAt l (k + 1) = false := by simp [doneAt]; intros; omega
def machOk (T : Tr) (l : DL) : Bool := okT T && donesOk l

theorem specMachineOk_any (n : Nat) (m : MacV) (T : Tr) (l : DL) (w : World) (h : MacAt n w m T l) (hsz : sizeT n T ≤ 1099511627776) :
  Calls Tryz.prog 58 #[m.val] w fun e w' => e = .returned (.bool (machOk T l)) ∧ Below w.heap.size w w' := by
 obtain ⟨a, b, off, cap, hv, hcap, hmax, ha, hx0, hx1, hx2, hx3⟩ := h.2.dones
 obtain ⟨⟨lf, p, c, k, bf⟩, v⟩ := m
 simp only at hv
 subst hv
 unfold maxLen at hmax
 have TT : Hid (TreeAt n w ⟨lf, p, c, k, bf⟩ T) := h.1
 have N1 : Hid (MBox 48 (w.alloc (.cells #[.bool lf, p, c, k, bf, .slice a l.length cap] 48)) w.heap.size #[.bool lf, p, c, k, bf, .slice a l.length cap]) := MBox.start _ w _
 have B1 : Hid (Below w.heap.size w (w.alloc (.cells #[.bool lf, p, c, k, bf, .slice a l.length cap] 48))) := bel_nw _ _
 clear h
 show Calls Tryz.prog 58 #[.agg #[.bool lf, p, c, k, bf, .slice a l.length cap]] w _
 go_enter Tryz.func58, Tryz.ntmps58
 go_upto_region 1 with fail
 generalize w.alloc (.cells #[.bool lf, p, c, k, bf, .slice a l.length cap] 48) = W at *
 go_wp2
 go_loopw [3] (fun i wr => ∃ j : Nat, j ≤ l.length ∧ i = .int .i64 j ∧ Hid (∀ i, i < j → doneAt l i = true) ∧ Hid (Below W.heap.size W wr))
  (fun i _ => l.length - (intOf i).toNat)
 case atStart => exact ⟨0, Nat.zero_le _, rfl, fun i hi => absurd hi (Nat.not_lt_zero _), Below.refl _ _⟩
 case round =>
  obtain ⟨j, hjl, rfl, ALL, hbW⟩ := hrel
  have c1 := (N1.out.step hbW.out).cells
  have hb : Hid (Below w.heap.size w wr) := Below.and B1.out hbW.out
  by_cases hlt : j < l.length
  ·have hal := ha (by omega)
   subst hal
   have d0 : wr.cell? ⟨b, off + j * 4, none⟩ = some (.int .i64 (dC l j)) := (hb.out.cell (by exact cell_lt (hx0 j hlt))).trans (hx0 j hlt)
   have d1 : wr.cell? ⟨b, off + j * 4 + 1, none⟩ = some (.int .i64 (dS l j)) := (hb.out.cell (by exact cell_lt (hx1 j hlt))).trans (hx1 j hlt)
   have d2 : wr.cell? ⟨b, off + j * 4 + 2, none⟩ = some (.int .i64 (dV l j)) := (hb.out.cell (by exact cell_lt (hx2 j hlt))).trans (hx2 j hlt)
   have d3 : wr.cell? ⟨b, off + j * 4 + 3, none⟩ = some (.bool (dH l j)) := (hb.out.cell (by exact cell_lt (hx3 j hlt))).trans (hx3 j hlt)
   have NB : Hid (Below wr.heap.size wr (wr.alloc (.cells #[.int .i64 (dC l j), .int .i64 (dS l j), .int .i64 (dV l j), .bool (dH l j)] 126))) := bel_nw _ _
   have NX : Hid (MBox 126 (wr.alloc (.cells #[.int .i64 (dC l j), .int .i64 (dS l j), .int .i64 (dV l j), .bool (dH l j)] 126)) wr.heap.size #[.int .i64 (dC l j), .int .i64 (dS l j), .int .i64 (dV l j), .bool (dH l j)]) := MBox.start _ wr _
   go_upto_region 5 with fail
   generalize wr.alloc (.cells #[.int .i64 (dC l j), .int .i64 (dS l j), .int .i64 (dV l j), .bool (dH l j)] 126) = V at *
   generalize hbx : wr.heap.size = bx at *
   have e0 := NX.out.cells
   have c2 := (N1.out.step (hbW.out.trans (NB.out.mono (by rw [← hbx]; exact hbW.out.size)))).cells
   have FV : Hid (Below W.heap.size W V) := hbW.out.trans (NB.out.mono (by rw [← hbx]; exact hbW.out.size))
   have FB : Hid (Below w.heap.size w V) := Below.and B1.out FV.out
   clear c1 d0 d1 d2 d3
   cases hK : inB (dC l j) 1 9
   ·have NE : Hid (machOk T l = false) := by show _ = _; rw [machOk, donesOk_false hlt (doneAt_c hK), Bool.and_false]
    clear hx0 hx1 hx2 hx3
    go_wp2_with fail
    go_quiet (first | (go_at_call 44; exact Calls.quiet_of_same (l1In_any _ _ _ _)) | (go_at_call 87; exact Calls.quiet_of_same (l1Value_any _ _)))
    go_wp2
    go_ret
    exact ⟨ret_bool NE.out.symm, below_drewN FB.out _⟩
   ·cases hS : inB (dS l j) 1 100000
    ·have NE : Hid (machOk T l = false) := by show _ = _; rw [machOk, donesOk_false hlt (doneAt_s hS), Bool.and_false]
     clear hx0 hx1 hx2 hx3
     go_wp2_with fail
     go_quiet (first | (go_at_call 44; exact Calls.quiet_of_same (l1In_any _ _ _ _)) | (go_at_call 87; exact Calls.quiet_of_same (l1Value_any _ _)))
     go_wp2
     go_ret
     exact ⟨ret_bool NE.out.symm, below_drewN FB.out _⟩
    ·cases hV : inB (dV l j) (-1000000000) 1000000000
     ·have NE : Hid (machOk T l = false) := by show _ = _; rw [machOk, donesOk_false hlt (doneAt_v hV), Bool.and_false]
      clear hx0 hx1 hx2 hx3
      go_wp2_with fail
      go_quiet (first | (go_at_call 44; exact Calls.quiet_of_same (l1In_any _ _ _ _)) | (go_at_call 87; exact Calls.quiet_of_same (l1Value_any _ _)))
      go_wp2
      go_ret
      exact ⟨ret_bool NE.out.symm, below_drewN FB.out _⟩
     ·cases j with
      | zero =>
       have OK : Hid (doneAt l 0 = true) := doneAt_zero hK hS hV
       clear hx0 hx1 hx2 hx3
       go_wp2_with fail
       go_quiet (first | (go_at_call 44; exact Calls.quiet_of_same (l1In_any _ _ _ _)) | (go_at_call 87; exact Calls.quiet_of_same (l1Value_any _ _)))
       go_wp2
       go_roundw
       case rel => exact ⟨1, by omega, by go_num, fun i hi => by rw [show i = 0 by omega]; exact OK.out, below_drewN FV.out _⟩
       case measure => simp [intOf]; omega
      | succ j =>
       have hpos : (0 : Int) < ((j + 1 : Nat) : Int) := by omega
       have g2 : V.cell? ⟨b, off + j * 4, none⟩ = some (.int .i64 (dC l j)) := (FB.out.cell (by exact cell_lt (hx0 j (by omega)))).trans (hx0 j (by omega))
       clear hx0 hx1 hx2 hx3
       by_cases hord : dC l j < dC l (j + 1)
       ·have OK : Hid (doneAt l (j + 1) = true) := doneAt_succ hK hS hV hord
        go_wp2_with fail
        go_quiet (first | (go_at_call 44; exact Calls.quiet_of_same (l1In_any _ _ _ _)) | (go_at_call 87; exact Calls.quiet_of_same (l1Value_any _ _)))
        go_wp2
        go_roundw
        case rel => exact ⟨j + 1 + 1, by omega, by go_num, fun i hi => if h : i < j + 1 then ALL.out i h else by rw [show i = j + 1 by omega]; exact OK.out, below_drewN FV.out _⟩
        case measure => simp [intOf]; omega
       ·have NE : Hid (machOk T l = false) := by show _ = _; rw [machOk, donesOk_false hlt (doneAt_lt hord), Bool.and_false]
        go_wp2_with fail
        go_quiet (first | (go_at_call 44; exact Calls.quiet_of_same (l1In_any _ _ _ _)) | (go_at_call 87; exact Calls.quiet_of_same (l1Value_any _ _)))
        go_wp2
        go_ret
        exact ⟨ret_bool NE.out.symm, below_drewN FB.out _⟩
  ·have OK : Hid (machOk T l = okT T) := by show _ = _; rw [machOk, donesOk_true (fun i hi => ALL.out i (by omega)), Bool.and_true]
   clear hx0 hx1 hx2 hx3
   go_wp2_with fail
   refine (specTreeOk_any n ⟨lf, p, c, k, bf⟩ T wr (TT.out.below hb.out) hsz).mono ?_
   rintro e w5 ⟨rfl, b5⟩
   go_wp2
   go_ret
   exact ⟨ret_bool OK.out.symm, Below.and hb.out b5⟩
end
end Go.Proofs.YtmdajbbpigbdcaaGreat
