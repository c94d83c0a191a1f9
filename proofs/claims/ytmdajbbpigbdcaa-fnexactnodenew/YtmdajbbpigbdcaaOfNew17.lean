/-
  markNode where a node's lists lie in blocks of their own in any order.
  MachineOk of the model.
-/
import Derived.Test.YtmdajbbpigbdcaaOfNew16
import Derived.Test.YtmdajbbpigbdcaaOfNew2
import Derived.Test.YtmdajbbpigbdcaaOfNew5
import Derived.BigQuiet
import Derived.Deep.DeepCutAuto
import Derived.Deep.CutBlock
import Derived.Deep.QuietTactic
namespace Go.Proofs.Ytmdajbbpigbdcaa
set_option maxRecDepth 100000
set_option maxHeartbeats 8000000
section
open Go.RowKit

theorem markNode_u (n : Nat) (N : NodV) (D : Nd) (lo hi gV gN gM c5 c6 : Nat) (k : Int) (w : World) (q : lo ≤ gV ∧ lo ≤ gN ∧ lo ≤ gM ∧ gV ≠ gN ∧ gV ≠ gM ∧ gN ≠ gM ∧ gV < c5 ∧ gN < c5 ∧ gM < c5 ∧ c5 ≤ c6 ∧ c6 ≤ hi ∧ hi ≤ w.heap.size)
  (o1 : OwnI w 0 0 82 6 N.lv D.l.length (flatE D.l)) (o2 : MacI n w 0 0 N.s D.T1 D.d1) (o3 : OwnI w gV (gV + 1) 4 1 N.vv D.vs.length (flatL D.vs)) (o4 : OwnI w gN (gN + 1) 3 1 N.nv D.nx.length (flatI D.nx)) (o5 : OwnI w gM (gM + 1) 3 1 N.mv D.mt.length (flatI D.mt)) (o6 : MacI n w c5 c6 N.o D.T2 D.d2)
  (hk0 : 0 ≤ k) (hk1 : markK n k D ≤ 67108864) :
  Calls Try.prog 8 #[N.val, .int .i64 k] w fun e w' => e = .returned (.int .i64 (markK n k D)) ∧ NodAt n w' N (markD n k D) ∧ Chg (fun g => lo ≤ g ∧ g < hi) w w' := by
 unfold markK at *
 obtain ⟨id, te, vo, lb, lt, lv, ⟨⟨sl, sp, sc, sk, sb⟩, sv⟩, ro, vv, nv, mv, cm, ⟨⟨ol, op, oc, ok, ob⟩, ov⟩⟩ := N
 obtain ⟨l, T1, d1, vs, nx, mt, T2, d2⟩ := D
 have h7 : c6 ≤ w.heap.size := Nat.le_trans q.2.2.2.2.2.2.2.2.2.2.1 q.2.2.2.2.2.2.2.2.2.2.2
 simp only at hk1 o1 o2 o3 o4 o5 o6 ⊢
 have P1 : Hid (∀ u, OwnI u 0 0 82 6 lv l.length (flatE l) → Calls Try.prog 27 #[lgV lb lt lv, .int .i64 k] u fun e w' => e = .returned (.int .i64 (k + 6 * l.length)) ∧ OwnI w' 0 0 82 6 lv l.length (flatE (marksE k l.length)) ∧ Chg (fun g => 0 ≤ g ∧ g < 0) u w') := fun u hu => (markLog_g lb lt lv l 0 k u hu.1 (by omega) hk0 (by omega)).mono (fun e w' ⟨a, b, c⟩ => ⟨a, ⟨b, hu.2⟩, c.mono (fun g _ hg => ⟨(hu.1.lt g hg).1, hu.2 g hg⟩)⟩)
 have P2 : Hid (∀ u, 0 ≤ u.heap.size → MacI n u 0 0 ⟨⟨sl, sp, sc, sk, sb⟩, sv⟩ T1 d1 → Calls Try.prog 28 #[.agg #[.bool sl, sp, sc, sk, sb, sv], .int .i64 (k + 6 * l.length)] u fun e w' => e = .returned (.int .i64 (k + 6 * l.length + (mkT n T1 : Nat) + 4 * d1.length)) ∧ MacI n w' 0 0 ⟨⟨sl, sp, sc, sk, sb⟩, sv⟩ (markTr n (k + 6 * l.length) T1) (marksD (k + 6 * l.length + (mkT n T1 : Nat)) d1.length) ∧ Chg (fun g => 0 ≤ g ∧ g < 0) u w') := fun u hs hu => markMachine_d n ⟨⟨sl, sp, sc, sk, sb⟩, sv⟩ T1 d1 _ (k + 6 * l.length) u hu (fun g hg => by omega) (by omega) (by omega)
 have P3 : Hid (∀ u, OwnI u gV (gV + 1) 4 1 vv vs.length (flatL vs) → Calls Try.prog 29 #[vv, .int .i64 (k + 6 * l.length + (mkT n T1 : Nat) + 4 * d1.length)] u fun e w' => e = .returned (.int .i64 (k + 6 * l.length + (mkT n T1 : Nat) + 4 * d1.length + vs.length)) ∧ OwnI w' gV (gV + 1) 4 1 vv vs.length (flatL (marksL (k + 6 * l.length + (mkT n T1 : Nat) + 4 * d1.length) vs.length)) ∧ Chg (fun g => gV ≤ g ∧ g < gV + 1) u w') := fun u hu => (markBoolS_g gV vv vs _ u hu.1 (by omega) (by omega) (by omega)).mono (fun e w' ⟨a, b, c⟩ => ⟨a, ⟨b, hu.2⟩, c.mono (fun g _ hg => ⟨(hu.1.lt g hg).1, hu.2 g hg⟩)⟩)
 have P4 : Hid (∀ u, OwnI u gN (gN + 1) 3 1 nv nx.length (flatI nx) → Calls Try.prog 30 #[nv, .int .i64 (k + 6 * l.length + (mkT n T1 : Nat) + 4 * d1.length + vs.length)] u fun e w' => e = .returned (.int .i64 (k + 6 * l.length + (mkT n T1 : Nat) + 4 * d1.length + vs.length + nx.length)) ∧ OwnI w' gN (gN + 1) 3 1 nv nx.length (flatI (marksI (k + 6 * l.length + (mkT n T1 : Nat) + 4 * d1.length + vs.length) nx.length)) ∧ Chg (fun g => gN ≤ g ∧ g < gN + 1) u w') := fun u hu => (markIntS_g gN nv nx _ u hu.1 (by omega) (by omega) (by omega)).mono (fun e w' ⟨a, b, c⟩ => ⟨a, ⟨b, hu.2⟩, c.mono (fun g _ hg => ⟨(hu.1.lt g hg).1, hu.2 g hg⟩)⟩)
 have P5 : Hid (∀ u, OwnI u gM (gM + 1) 3 1 mv mt.length (flatI mt) → Calls Try.prog 30 #[mv, .int .i64 (k + 6 * l.length + (mkT n T1 : Nat) + 4 * d1.length + vs.length + nx.length)] u fun e w' => e = .returned (.int .i64 (k + 6 * l.length + (mkT n T1 : Nat) + 4 * d1.length + vs.length + nx.length + mt.length)) ∧ OwnI w' gM (gM + 1) 3 1 mv mt.length (flatI (marksI (k + 6 * l.length + (mkT n T1 : Nat) + 4 * d1.length + vs.length + nx.length) mt.length)) ∧ Chg (fun g => gM ≤ g ∧ g < gM + 1) u w') := fun u hu => (markIntS_g gM mv mt _ u hu.1 (by omega) (by omega) (by omega)).mono (fun e w' ⟨a, b, c⟩ => ⟨a, ⟨b, hu.2⟩, c.mono (fun g _ hg => ⟨(hu.1.lt g hg).1, hu.2 g hg⟩)⟩)
 have P6 : Hid (∀ u, c6 ≤ u.heap.size → MacI n u c5 c6 ⟨⟨ol, op, oc, ok, ob⟩, ov⟩ T2 d2 → Calls Try.prog 28 #[.agg #[.bool ol, op, oc, ok, ob, ov], .int .i64 (k + 6 * l.length + (mkT n T1 : Nat) + 4 * d1.length + vs.length + nx.length + mt.length)] u fun e w' => e = .returned (.int .i64 (k + 6 * l.length + (mkT n T1 : Nat) + 4 * d1.length + vs.length + nx.length + mt.length + (mkT n T2 : Nat) + 4 * d2.length)) ∧ MacI n w' c5 c6 ⟨⟨ol, op, oc, ok, ob⟩, ov⟩ (markTr n (k + 6 * l.length + (mkT n T1 : Nat) + 4 * d1.length + vs.length + nx.length + mt.length) T2) (marksD (k + 6 * l.length + (mkT n T1 : Nat) + 4 * d1.length + vs.length + nx.length + mt.length + (mkT n T2 : Nat)) d2.length) ∧ Chg (fun g => c5 ≤ g ∧ g < c6) u w') := fun u hs hu => markMachine_d n ⟨⟨ol, op, oc, ok, ob⟩, ov⟩ T2 d2 _ (k + 6 * l.length + (mkT n T1 : Nat) + 4 * d1.length + vs.length + nx.length + mt.length) u hu (fun g hg => by omega) (by omega) (by omega)
 obtain ⟨av, qv, hvv, -⟩ := o3.row.len
 obtain ⟨an, qn, hnv, -⟩ := o4.row.len
 obtain ⟨am, qm, hmv, -⟩ := o5.row.len
 clear hvv hnv hmv
 have E1 := hid9c q
 have B1 : Below w.heap.size w (w.alloc (.cells #[.int .i64 id, .int .i64 te, .int .i64 vo, .int .i64 lb, .int .i64 lt, lv, .bool sl, sp, sc, sk, sb, sv, .int .i64 ro, vv, nv, mv, .int .i64 cm, .bool ol, op, oc, ok, ob, ov] 36)) := bel_nw _ _
 have O1 := hid9c (o1.below B1)
 have O2 := hid9c (o2.below B1)
 have O3 := hid9c (o3.below B1)
 have O4 := hid9c (o4.below B1)
 have O5 := hid9c (o5.below B1)
 have O6 := hid9c (o6.below B1)
 have SZ : Hid (c6 ≤ (w.alloc (.cells #[.int .i64 id, .int .i64 te, .int .i64 vo, .int .i64 lb, .int .i64 lt, lv, .bool sl, sp, sc, sk, sb, sv, .int .i64 ro, vv, nv, mv, .int .i64 cm, .bool ol, op, oc, ok, ob, ov] 36)).heap.size) := Nat.le_trans h7 B1.size
 have N1 : Hid ((w.alloc (.cells #[.int .i64 id, .int .i64 te, .int .i64 vo, .int .i64 lb, .int .i64 lt, lv, .bool sl, sp, sc, sk, sb, sv, .int .i64 ro, vv, nv, mv, .int .i64 cm, .bool ol, op, oc, ok, ob, ov] 36)).heap[w.heap.size]? = some (.cells #[.int .i64 id, .int .i64 te, .int .i64 vo, .int .i64 lb, .int .i64 lt, lv, .bool sl, sp, sc, sk, sb, sv, .int .i64 ro, vv, nv, mv, .int .i64 cm, .bool ol, op, oc, ok, ob, ov] 36 (0, 0))) := MBox.start 36 w #[.int .i64 id, .int .i64 te, .int .i64 vo, .int .i64 lb, .int .i64 lt, lv, .bool sl, sp, sc, sk, sb, sv, .int .i64 ro, vv, nv, mv, .int .i64 cm, .bool ol, op, oc, ok, ob, ov]
 have CH : Hid (Chg (fun g => lo ≤ g ∧ g < hi) w (w.alloc (.cells #[.int .i64 id, .int .i64 te, .int .i64 vo, .int .i64 lb, .int .i64 lt, lv, .bool sl, sp, sc, sk, sb, sv, .int .i64 ro, vv, nv, mv, .int .i64 cm, .bool ol, op, oc, ok, ob, ov] 36))) := (Chg.refl _ _).alloc _
 clear h7 o1 o2 o3 o4 o5 o6 B1 hk0 hk1 q
 have c1 := fun j => cell_of_cells (j := j) N1.out
 generalize hq6 : k + 6 * l.length + (mkT n T1 : Nat) + 4 * d1.length + vs.length + nx.length + mt.length + (mkT n T2 : Nat) + 4 * d2.length = r6 at *
 generalize hq5 : k + 6 * l.length + (mkT n T1 : Nat) + 4 * d1.length + vs.length + nx.length + mt.length = r5 at *
 generalize hq4 : k + 6 * l.length + (mkT n T1 : Nat) + 4 * d1.length + vs.length + nx.length = r4 at *
 generalize hq3 : k + 6 * l.length + (mkT n T1 : Nat) + 4 * d1.length + vs.length = r3 at *
 generalize hq2 : k + 6 * l.length + (mkT n T1 : Nat) + 4 * d1.length = r2 at *
 generalize hq1 : k + 6 * l.length = r1 at *
 have HQ1 := hid9c hq1
 have HQ2 := hid9c hq2
 have HQ3 := hid9c hq3
 have HQ4 := hid9c hq4
 have HQ5 := hid9c hq5
 have HQ6 := hid9c hq6
 clear hq1 hq2 hq3 hq4 hq5 hq6
 show Calls Try.prog 8 #[.agg #[.int .i64 id, .int .i64 te, .int .i64 vo, .int .i64 lb, .int .i64 lt, lv, .bool sl, sp, sc, sk, sb, sv, .int .i64 ro, vv, nv, mv, .int .i64 cm, .bool ol, op, oc, ok, ob, ov], .int .i64 k] w _
 go_enter Try.func8, Try.ntmps8
 go_wp2_with fail
 generalize w.alloc (.cells #[.int .i64 id, .int .i64 te, .int .i64 vo, .int .i64 lb, .int .i64 lt, lv, .bool sl, sp, sc, sk, sb, sv, .int .i64 ro, vv, nv, mv, .int .i64 cm, .bool ol, op, oc, ok, ob, ov] 36) = W at *
 refine (P1.out _ O1.out).mono ?_
 rintro e w1 ⟨rfl, o, g⟩
 have q := E1.out
 replace SZ := hid9c (Nat.le_trans SZ.out g.size)
 replace O1 := hid9c o
 replace O2 := hid9c (O2.out.chg g (fun x a b c => by omega))
 replace O3 := hid9c (O3.out.chg g (fun x a b c => by omega))
 replace O4 := hid9c (O4.out.chg g (fun x a b c => by omega))
 replace O5 := hid9c (O5.out.chg g (fun x a b c => by omega))
 replace O6 := hid9c (O6.out.chg g (fun x a b c => by omega))
 replace N1 := hid9c (row_chg N1.out g (fun c => by omega))
 replace CH := hid9c (CH.out.trans g (fun x _ c => by omega))
 clear o g q c1
 have c1 := fun j => cell_of_cells (j := j) N1.out
 go_wp2_with fail
 refine (P2.out _ (by have q := E1.out; have s := SZ.out; omega) O2.out).mono ?_
 rintro e w2 ⟨rfl, o, g⟩
 have q := E1.out
 replace SZ := hid9c (Nat.le_trans SZ.out g.size)
 replace O1 := hid9c (O1.out.chg g (fun x a b c => by omega))
 replace O2 := hid9c o
 replace O3 := hid9c (O3.out.chg g (fun x a b c => by omega))
 replace O4 := hid9c (O4.out.chg g (fun x a b c => by omega))
 replace O5 := hid9c (O5.out.chg g (fun x a b c => by omega))
 replace O6 := hid9c (O6.out.chg g (fun x a b c => by omega))
 replace N1 := hid9c (row_chg N1.out g (fun c => by omega))
 replace CH := hid9c (CH.out.trans g (fun x _ c => by omega))
 clear o g q c1
 have c1 := fun j => cell_of_cells (j := j) N1.out
 go_wp2_with fail
 refine (P3.out _ O3.out).mono ?_
 rintro e w3 ⟨rfl, o, g⟩
 have q := E1.out
 replace SZ := hid9c (Nat.le_trans SZ.out g.size)
 replace O1 := hid9c (O1.out.chg g (fun x a b c => by omega))
 replace O2 := hid9c (O2.out.chg g (fun x a b c => by omega))
 replace O3 := hid9c o
 replace O4 := hid9c (O4.out.chg g (fun x a b c => by omega))
 replace O5 := hid9c (O5.out.chg g (fun x a b c => by omega))
 replace O6 := hid9c (O6.out.chg g (fun x a b c => by omega))
 replace N1 := hid9c (row_chg N1.out g (fun c => by omega))
 replace CH := hid9c (CH.out.trans g (fun x _ c => by omega))
 clear o g q c1
 have c1 := fun j => cell_of_cells (j := j) N1.out
 go_wp2_with fail
 refine (P4.out _ O4.out).mono ?_
 rintro e w4 ⟨rfl, o, g⟩
 have q := E1.out
 replace SZ := hid9c (Nat.le_trans SZ.out g.size)
 replace O1 := hid9c (O1.out.chg g (fun x a b c => by omega))
 replace O2 := hid9c (O2.out.chg g (fun x a b c => by omega))
 replace O3 := hid9c (O3.out.chg g (fun x a b c => by omega))
 replace O4 := hid9c o
 replace O5 := hid9c (O5.out.chg g (fun x a b c => by omega))
 replace O6 := hid9c (O6.out.chg g (fun x a b c => by omega))
 replace N1 := hid9c (row_chg N1.out g (fun c => by omega))
 replace CH := hid9c (CH.out.trans g (fun x _ c => by omega))
 clear o g q c1
 have c1 := fun j => cell_of_cells (j := j) N1.out
 go_wp2_with fail
 refine (P5.out _ O5.out).mono ?_
 rintro e w5 ⟨rfl, o, g⟩
 have q := E1.out
 replace SZ := hid9c (Nat.le_trans SZ.out g.size)
 replace O1 := hid9c (O1.out.chg g (fun x a b c => by omega))
 replace O2 := hid9c (O2.out.chg g (fun x a b c => by omega))
 replace O3 := hid9c (O3.out.chg g (fun x a b c => by omega))
 replace O4 := hid9c (O4.out.chg g (fun x a b c => by omega))
 replace O5 := hid9c o
 replace O6 := hid9c (O6.out.chg g (fun x a b c => by omega))
 replace N1 := hid9c (row_chg N1.out g (fun c => by omega))
 replace CH := hid9c (CH.out.trans g (fun x _ c => by omega))
 clear o g q c1
 have c1 := fun j => cell_of_cells (j := j) N1.out
 go_wp2_with fail
 refine (P6.out _ (by have q := E1.out; have s := SZ.out; omega) O6.out).mono ?_
 rintro e w6 ⟨rfl, o, g⟩
 have q := E1.out
 replace SZ := hid9c (Nat.le_trans SZ.out g.size)
 replace O1 := hid9c (O1.out.chg g (fun x a b c => by omega))
 replace O2 := hid9c (O2.out.chg g (fun x a b c => by omega))
 replace O3 := hid9c (O3.out.chg g (fun x a b c => by omega))
 replace O4 := hid9c (O4.out.chg g (fun x a b c => by omega))
 replace O5 := hid9c (O5.out.chg g (fun x a b c => by omega))
 replace O6 := hid9c o
 replace N1 := hid9c (row_chg N1.out g (fun c => by omega))
 replace CH := hid9c (CH.out.trans g (fun x _ c => by omega))
 clear o g q c1
 have c1 := fun j => cell_of_cells (j := j) N1.out
 go_wp2
 go_ret
 refine ⟨rfl, ?_, CH.out⟩
 refine ⟨?_, ?_, ?_, ?_, ?_, ?_⟩
 ·show Row _ _ (marksE k l.length).length (flatE (marksE k l.length))
  rw [marksE_length]
  exact O1.out.row
 ·show MacAt _ _ _ (markTr n (k + 6 * l.length) T1) (marksD (k + 6 * l.length + (mkT n T1 : Nat)) d1.length)
  rw [HQ1.out]
  exact MacD.at O2.out
 ·show Row _ _ (marksL (k + 6 * l.length + (mkT n T1 : Nat) + 4 * d1.length) vs.length).length (flatL (marksL (k + 6 * l.length + (mkT n T1 : Nat) + 4 * d1.length) vs.length))
  rw [marksL_length, HQ1.out, HQ2.out]
  exact O3.out.row
 ·show Row _ _ (marksI (k + 6 * l.length + (mkT n T1 : Nat) + 4 * d1.length + vs.length) nx.length).length (flatI (marksI (k + 6 * l.length + (mkT n T1 : Nat) + 4 * d1.length + vs.length) nx.length))
  rw [marksI_length, HQ1.out, HQ2.out, HQ3.out]
  exact O4.out.row
 ·show Row _ _ (marksI (k + 6 * l.length + (mkT n T1 : Nat) + 4 * d1.length + vs.length + nx.length) mt.length).length (flatI (marksI (k + 6 * l.length + (mkT n T1 : Nat) + 4 * d1.length + vs.length + nx.length) mt.length))
  rw [marksI_length, HQ1.out, HQ2.out, HQ3.out, HQ4.out]
  exact O5.out.row
 ·show MacAt _ _ _ (markTr n (k + 6 * l.length + (mkT n T1 : Nat) + 4 * d1.length + vs.length + nx.length + mt.length) T2) (marksD (k + 6 * l.length + (mkT n T1 : Nat) + 4 * d1.length + vs.length + nx.length + mt.length + (mkT n T2 : Nat)) d2.length)
  rw [HQ1.out, HQ2.out, HQ3.out, HQ4.out, HQ5.out]
  exact MacD.at O6.out
end
section
open Go.RowKit

def doneAt (l : DL) (k : Nat) : Bool := inB (dC l k) 1 9 && inB (dS l k) 1 100000 && inB (dV l k) (-1000000000) 1000000000 && (k == 0 || decide (dC l (k - 1) < dC l k))
def donesOk (l : DL) : Bool := (List.range l.length).all (doneAt l)
theorem donesOk_true {l : DL} (h : ∀ k, k < l.length → doneAt l k = true) : donesOk l = true := by
 unfold donesOk; rw [List.all_eq_true]; intro k hk; exact h k (List.mem_range.1 hk)
theorem donesOk_false {l : DL} {k : Nat} (hk : k < l.length) (h : doneAt l k = false) : donesOk l = false := by
 unfold donesOk; rw [List.all_eq_false]; exact ⟨k, List.mem_range.2 hk, by simp [h]⟩
theorem doneAt_c {l : DL} {k : Nat} (h : inB (dC l k) 1 9 = false) : doneAt l k = false := by simp [doneAt, h]
theorem doneAt_s {l : DL} {k : Nat} (h : inB (dS l k) 1 100000 = false) : doneAt l k = false := by simp [doneAt, h]
theorem doneAt_v {l : DL} {k : Nat} (h : inB (dV l k) (-1000000000) 1000000000 = false) : doneAt l k = false := by simp [doneAt, h]
theorem doneAt_zero {l : DL} (h1 : inB (dC l 0) 1 9 = true) (h2 : inB (dS l 0) 1 100000 = true) (h3 : inB (dV l 0) (-1000000000) 1000000000 = true) : doneAt l 0 = true := by simp [doneAt, h1, h2, h3]
theorem doneAt_succ {l : DL} {k : Nat} (h1 : inB (dC l (k + 1)) 1 9 = true) (h2 : inB (dS l (k + 1)) 1 100000 = true) (h3 : inB (dV l (k + 1)) (-1000000000) 1000000000 = true) (h : dC l k < dC l (k + 1)) : doneAt l (k + 1) = true := by simp [doneAt, h1, h2, h3, h]
theorem doneAt_lt {l : DL} {k : Nat} (h : ¬ dC l k < dC l (k + 1)) : doneAt l (k + 1) = false := by simp [doneAt]; intros; omega
def machOk (T : Tr) (l : DL) : Bool := okT T && donesOk l

theorem specMachineOk_any (n : Nat) (m : MacV) (T : Tr) (l : DL) (w : World) (h : MacAt n w m T l) (hsz : sizeT n T ≤ 1099511627776) :
  Calls Try.prog 38 #[m.val] w fun e w' => e = .returned (.bool (machOk T l)) ∧ Below w.heap.size w w' := by
 obtain ⟨a, b, off, cap, hv, hcap, hmax, ha, hx0, hx1, hx2, hx3⟩ := h.2.dones
 obtain ⟨⟨lf, p, c, k, bf⟩, v⟩ := m
 simp only at hv
 subst hv
 unfold maxLen at hmax
 have TT : Hid (TreeAt n w ⟨lf, p, c, k, bf⟩ T) := h.1
 have N1 : Hid (MBox 33 (w.alloc (.cells #[.bool lf, p, c, k, bf, .slice a l.length cap] 33)) w.heap.size #[.bool lf, p, c, k, bf, .slice a l.length cap]) := MBox.start _ w _
 have B1 : Hid (Below w.heap.size w (w.alloc (.cells #[.bool lf, p, c, k, bf, .slice a l.length cap] 33))) := bel_nw _ _
 clear h
 show Calls Try.prog 38 #[.agg #[.bool lf, p, c, k, bf, .slice a l.length cap]] w _
 go_enter Try.func38, Try.ntmps38
 go_upto_region 1 with fail
 generalize w.alloc (.cells #[.bool lf, p, c, k, bf, .slice a l.length cap] 33) = W at *
 go_wp2
 go_loopw [3] (fun i wr => ∃ j : Nat, j ≤ l.length ∧ i = .int .i64 j ∧ Hid (∀ i, i < j → doneAt l i = true) ∧ Hid (Below W.heap.size W wr))
  (fun i _ => l.length - (intOf i).toNat)
 case atStart => exact ⟨0, Nat.zero_le _, rfl, fun i hi => absurd hi (Nat.not_lt_zero _), Below.refl _ _⟩
 case round =>
  obtain ⟨j, hjl, rfl, ALL, hbW⟩ := hrel
  have c1 := (N1.out.step hbW.out).cells
  have hb : Hid (Below w.heap.size w wr) := Below.and B1.out hbW.out
  by_cases hlt : j < l.length
  ·have hal := ha (by omega)
   subst hal
   have d0 : wr.cell? ⟨b, off + j * 4, none⟩ = some (.int .i64 (dC l j)) := (hb.out.cell (by exact cell_lt (hx0 j hlt))).trans (hx0 j hlt)
   have d1 : wr.cell? ⟨b, off + j * 4 + 1, none⟩ = some (.int .i64 (dS l j)) := (hb.out.cell (by exact cell_lt (hx1 j hlt))).trans (hx1 j hlt)
   have d2 : wr.cell? ⟨b, off + j * 4 + 2, none⟩ = some (.int .i64 (dV l j)) := (hb.out.cell (by exact cell_lt (hx2 j hlt))).trans (hx2 j hlt)
   have d3 : wr.cell? ⟨b, off + j * 4 + 3, none⟩ = some (.bool (dH l j)) := (hb.out.cell (by exact cell_lt (hx3 j hlt))).trans (hx3 j hlt)
   have NB : Hid (Below wr.heap.size wr (wr.alloc (.cells #[.int .i64 (dC l j), .int .i64 (dS l j), .int .i64 (dV l j), .bool (dH l j)] 109))) := bel_nw _ _
   have NX : Hid (MBox 109 (wr.alloc (.cells #[.int .i64 (dC l j), .int .i64 (dS l j), .int .i64 (dV l j), .bool (dH l j)] 109)) wr.heap.size #[.int .i64 (dC l j), .int .i64 (dS l j), .int .i64 (dV l j), .bool (dH l j)]) := MBox.start _ wr _
   go_upto_region 5 with fail
   generalize wr.alloc (.cells #[.int .i64 (dC l j), .int .i64 (dS l j), .int .i64 (dV l j), .bool (dH l j)] 109) = V at *
   generalize hbx : wr.heap.size = bx at *
   have e0 := NX.out.cells
   have c2 := (N1.out.step (hbW.out.trans (NB.out.mono (by rw [← hbx]; exact hbW.out.size)))).cells
   have FV : Hid (Below W.heap.size W V) := hbW.out.trans (NB.out.mono (by rw [← hbx]; exact hbW.out.size))
   have FB : Hid (Below w.heap.size w V) := Below.and B1.out FV.out
   clear c1 d0 d1 d2 d3
   cases hK : inB (dC l j) 1 9
   ·have NE : Hid (machOk T l = false) := by show _ = _; rw [machOk, donesOk_false hlt (doneAt_c hK), Bool.and_false]
    clear hx0 hx1 hx2 hx3
    go_wp2_with fail
    go_quiet (first | (go_at_call 15; exact Calls.quiet_of_same (l1In_any _ _ _ _)) | (go_at_call 62; exact Calls.quiet_of_same (l1Value_any _ _)))
    go_wp2
    go_ret
    exact ⟨ret_bool NE.out.symm, below_drewN FB.out _⟩
   ·cases hS : inB (dS l j) 1 100000
    ·have NE : Hid (machOk T l = false) := by show _ = _; rw [machOk, donesOk_false hlt (doneAt_s hS), Bool.and_false]
     clear hx0 hx1 hx2 hx3
     go_wp2_with fail
     go_quiet (first | (go_at_call 15; exact Calls.quiet_of_same (l1In_any _ _ _ _)) | (go_at_call 62; exact Calls.quiet_of_same (l1Value_any _ _)))
     go_wp2
     go_ret
     exact ⟨ret_bool NE.out.symm, below_drewN FB.out _⟩
    ·cases hV : inB (dV l j) (-1000000000) 1000000000
     ·have NE : Hid (machOk T l = false) := by show _ = _; rw [machOk, donesOk_false hlt (doneAt_v hV), Bool.and_false]
      clear hx0 hx1 hx2 hx3
      go_wp2_with fail
      go_quiet (first | (go_at_call 15; exact Calls.quiet_of_same (l1In_any _ _ _ _)) | (go_at_call 62; exact Calls.quiet_of_same (l1Value_any _ _)))
      go_wp2
      go_ret
      exact ⟨ret_bool NE.out.symm, below_drewN FB.out _⟩
     ·cases j with
      | zero =>
       have OK : Hid (doneAt l 0 = true) := doneAt_zero hK hS hV
       clear hx0 hx1 hx2 hx3
       go_wp2_with fail
       go_quiet (first | (go_at_call 15; exact Calls.quiet_of_same (l1In_any _ _ _ _)) | (go_at_call 62; exact Calls.quiet_of_same (l1Value_any _ _)))
       go_wp2
       go_roundw
       case rel => exact ⟨1, by omega, by go_num, fun i hi => by rw [show i = 0 by omega]; exact OK.out, below_drewN FV.out _⟩
       case measure => simp [intOf]; omega
      | succ j =>
       have hpos : (0 : Int) < ((j + 1 : Nat) : Int) := by omega
       have g2 : V.cell? ⟨b, off + j * 4, none⟩ = some (.int .i64 (dC l j)) := (FB.out.cell (by exact cell_lt (hx0 j (by omega)))).trans (hx0 j (by omega))
       clear hx0 hx1 hx2 hx3
       by_cases hord : dC l j < dC l (j + 1)
       ·have OK : Hid (doneAt l (j + 1) = true) := doneAt_succ hK hS hV hord
        go_wp2_with fail
        go_quiet (first | (go_at_call 15; exact Calls.quiet_of_same (l1In_any _ _ _ _)) | (go_at_call 62; exact Calls.quiet_of_same (l1Value_any _ _)))
        go_wp2
        go_roundw
        case rel => exact ⟨j + 1 + 1, by omega, by go_num, fun i hi => if h : i < j + 1 then ALL.out i h else by rw [show i = j + 1 by omega]; exact OK.out, below_drewN FV.out _⟩
        case measure => simp [intOf]; omega
       ·have NE : Hid (machOk T l = false) := by show _ = _; rw [machOk, donesOk_false hlt (doneAt_lt hord), Bool.and_false]
        go_wp2_with fail
        go_quiet (first | (go_at_call 15; exact Calls.quiet_of_same (l1In_any _ _ _ _)) | (go_at_call 62; exact Calls.quiet_of_same (l1Value_any _ _)))
        go_wp2
        go_ret
        exact ⟨ret_bool NE.out.symm, below_drewN FB.out _⟩
  ·have OK : Hid (machOk T l = okT T) := by show _ = _; rw [machOk, donesOk_true (fun i hi => ALL.out i (by omega)), Bool.and_true]
   clear hx0 hx1 hx2 hx3
   go_wp2_with fail
   refine (specTreeOk_any n ⟨lf, p, c, k, bf⟩ T wr (TT.out.below hb.out) hsz).mono ?_
   rintro e w5 ⟨rfl, b5⟩
   go_wp2
   go_ret
   exact ⟨ret_bool OK.out.symm, Below.and hb.out b5⟩
end
end Go.Proofs.Ytmdajbbpigbdcaa
