/-
  The laws' functions that write marks into what is told, and look for them.
  The program's empty: a node in memory of its own, emptied through a pointer to it.
  The program's Rise.
-/
import Derived.Test.YtmdajbbpigbdcaaGreatOfFeed29
import Derived.Test.YtmdajbbpigbdcaaGreatOfFeed32
import Derived.Test.YtmdajbbpigbdcaaGreatOfFeed21
import Derived.Test.YtmdajbbpigbdcaaGreatOfFeed7
import Derived.Test.YtmdajbbpigbdcaaGreatOfFeed33
namespace Go.Proofs.YtmdajbbpigbdcaaGreat
set_option maxRecDepth 100000
set_option maxHeartbeats 8000000
section
open Go.RowKit

def markRD (n : Nat) (k : Int) (D : Rd) : Rd := ⟨marksE k D.l.length, markTr n (k + 6 * D.l.length) D.T, marksD (k + 6 * D.l.length + (mkT n D.T : Nat)) D.d.length⟩
def markRK (n : Nat) (k : Int) (D : Rd) : Int := k + 6 * D.l.length + (mkT n D.T : Nat) + 4 * D.d.length

theorem markRpc_d (n : Nat) (R : RpcV) (D : Rd) (lo hi : Nat) (k : Int) (w : World) (h : RpcDh n w lo hi R D) (hk0 : 0 ≤ k) (hk1 : markRK n k D ≤ 67108864) :
  Calls Tryz.prog 15 #[R.val, .int .i64 k] w fun e w' => e = .returned (.int .i64 (markRK n k D)) ∧ RpcDh n w' lo hi R (markRD n k D) ∧ Chg (fun g => lo ≤ g ∧ g < hi) w w' := by
 unfold markRK at *
 obtain ⟨kd, fr, tt, te, ix, it, cm, ok, ev, ⟨⟨sl, sp, sc, sk, sb⟩, sv⟩⟩ := R
 obtain ⟨l, T, d⟩ := D
 obtain ⟨e1, e2, h1, h2, h3, h4, o1, o2⟩ := h
 simp only at hk1 o1 o2 ⊢
 have P1 : Hid (∀ u, OwnI u lo e1 113 6 ev l.length (flatE l) → Calls Tryz.prog 51 #[ev, .int .i64 k] u fun e w' => e = .returned (.int .i64 (k + 6 * l.length)) ∧ OwnI w' lo e1 113 6 ev l.length (flatE (marksE k l.length)) ∧ Chg (fun g => lo ≤ g ∧ g < e1) u w') := fun u hu => (markEntryS_g lo ev l k u hu.1 (by omega) hk0 (by omega)).mono (fun e w' ⟨a, b, c⟩ => ⟨a, ⟨b, hu.2⟩, c.mono (fun g _ hg => ⟨(hu.1.lt g hg).1, hu.2 g hg⟩)⟩)
 have P2 : Hid (∀ u, e2 ≤ u.heap.size → MacI n u e1 e2 ⟨⟨sl, sp, sc, sk, sb⟩, sv⟩ T d → Calls Tryz.prog 37 #[.agg #[.bool sl, sp, sc, sk, sb, sv], .int .i64 (k + 6 * l.length)] u fun e w' => e = .returned (.int .i64 (k + 6 * l.length + (mkT n T : Nat) + 4 * d.length)) ∧ MacI n w' e1 e2 ⟨⟨sl, sp, sc, sk, sb⟩, sv⟩ (markTr n (k + 6 * l.length) T) (marksD (k + 6 * l.length + (mkT n T : Nat)) d.length) ∧ Chg (fun g => e1 ≤ g ∧ g < e2) u w') := fun u hs hu => markMachine_d n ⟨⟨sl, sp, sc, sk, sb⟩, sv⟩ T d _ (k + 6 * l.length) u hu (fun g hg => by omega) (by omega) (by omega)
 obtain ⟨av, qv, hvv, -⟩ := o1.row.len
 clear hvv
 have E1 : Hid (lo ≤ e1 ∧ e1 ≤ e2 ∧ e2 ≤ hi ∧ hi ≤ w.heap.size) := ⟨h1, h2, h3, h4⟩
 have B1 : Below w.heap.size w (w.alloc (.cells #[.int .i64 kd, .int .i64 fr, .int .i64 tt, .int .i64 te, .int .i64 ix, .int .i64 it, .int .i64 cm, .bool ok, ev, .bool sl, sp, sc, sk, sb, sv] 57)) := bel_nw _ _
 have O1 := hid9c (o1.below B1)
 have O2 := hid9c (o2.below B1)
 have SZ : Hid (e2 ≤ (w.alloc (.cells #[.int .i64 kd, .int .i64 fr, .int .i64 tt, .int .i64 te, .int .i64 ix, .int .i64 it, .int .i64 cm, .bool ok, ev, .bool sl, sp, sc, sk, sb, sv] 57)).heap.size) := Nat.le_trans (Nat.le_trans h3 h4) B1.size
 have N1 : Hid ((w.alloc (.cells #[.int .i64 kd, .int .i64 fr, .int .i64 tt, .int .i64 te, .int .i64 ix, .int .i64 it, .int .i64 cm, .bool ok, ev, .bool sl, sp, sc, sk, sb, sv] 57)).heap[w.heap.size]? = some (.cells #[.int .i64 kd, .int .i64 fr, .int .i64 tt, .int .i64 te, .int .i64 ix, .int .i64 it, .int .i64 cm, .bool ok, ev, .bool sl, sp, sc, sk, sb, sv] 57 (0, 0))) := MBox.start 57 w #[.int .i64 kd, .int .i64 fr, .int .i64 tt, .int .i64 te, .int .i64 ix, .int .i64 it, .int .i64 cm, .bool ok, ev, .bool sl, sp, sc, sk, sb, sv]
 have CH : Hid (Chg (fun g => lo ≤ g ∧ g < hi) w (w.alloc (.cells #[.int .i64 kd, .int .i64 fr, .int .i64 tt, .int .i64 te, .int .i64 ix, .int .i64 it, .int .i64 cm, .bool ok, ev, .bool sl, sp, sc, sk, sb, sv] 57))) := (Chg.refl _ _).alloc _
 clear h1 h2 h3 h4 o1 o2 B1 hk0 hk1
 have c1 := fun j => cell_of_cells (j := j) N1.out
 generalize hq2 : k + 6 * l.length + (mkT n T : Nat) + 4 * d.length = r2 at *
 generalize hq1 : k + 6 * l.length = r1 at *
 have HQ1 := hid9c hq1
 clear hq1 hq2
 show Calls Tryz.prog 15 #[.agg #[.int .i64 kd, .int .i64 fr, .int .i64 tt, .int .i64 te, .int .i64 ix, .int .i64 it, .int .i64 cm, .bool ok, ev, .bool sl, sp, sc, sk, sb, sv], .int .i64 k] w _
 go_enter Tryz.func15, Tryz.ntmps15
 go_wp2_with fail
 generalize w.alloc (.cells #[.int .i64 kd, .int .i64 fr, .int .i64 tt, .int .i64 te, .int .i64 ix, .int .i64 it, .int .i64 cm, .bool ok, ev, .bool sl, sp, sc, sk, sb, sv] 57) = W at *
 refine (P1.out _ O1.out).mono ?_
 rintro e w1 ⟨rfl, o, g⟩
 have q := E1.out
 replace SZ := hid9c (Nat.le_trans SZ.out g.size)
 replace O1 := hid9c o
 replace O2 := hid9c (O2.out.chg g (fun x a b c => by omega))
 replace N1 := hid9c (row_chg N1.out g (fun c => by omega))
 replace CH := hid9c (CH.out.trans g (fun x _ c => by omega))
 clear o g q c1
 have c1 := fun j => cell_of_cells (j := j) N1.out
 go_wp2_with fail
 refine (P2.out _ (by have q := E1.out; have s := SZ.out; omega) O2.out).mono ?_
 rintro e w2 ⟨rfl, o, g⟩
 have q := E1.out
 replace O1 := hid9c (O1.out.chg g (fun x a b c => by omega))
 replace O2 := hid9c o
 replace CH := hid9c (CH.out.trans g (fun x _ c => by omega))
 clear o g q c1
 go_wp2
 go_ret
 refine ⟨rfl, ?_, CH.out⟩
 obtain ⟨h1, h2, h3, h4⟩ := E1.out
 refine ⟨e1, e2, h1, h2, h3, Nat.le_trans h4 CH.out.size, ?_, ?_⟩
 ·show OwnI _ _ _ _ _ _ (marksE k l.length).length (flatE (marksE k l.length))
  rw [marksE_length]
  exact O1.out
 ·show MacI _ _ _ _ _ (markTr n (k + 6 * l.length) T) (marksD (k + 6 * l.length + (mkT n T : Nat)) d.length)
  rw [HQ1.out]
  exact O2.out

theorem heldRpc_m (n : Nat) (R : RpcV) (D : Rd) (k : Int) (w : World) (h : RpcAt n w R (markRD n k D)) (hk0 : 0 ≤ k) (hk1 : markRK n k D ≤ 67108864) :
  Calls Tryz.prog 16 #[R.val, .int .i64 k] w fun e w' => e = .returned (.int .i64 (markRK n k D)) ∧ Below w.heap.size w w' := by
 unfold markRK at *
 obtain ⟨kd, fr, tt, te, ix, it, cm, ok, ev, ⟨⟨sl, sp, sc, sk, sb⟩, sv⟩⟩ := R
 obtain ⟨l, T, d⟩ := D
 obtain ⟨p1, p2⟩ := h
 simp only [markRD] at hk1 p1 p2 ⊢
 rw [marksE_length] at p1
 have P1 : Hid (∀ u, Below w.heap.size w u → Calls Tryz.prog 52 #[ev, .int .i64 k] u fun e w' => e = .returned (.int .i64 (k + 6 * l.length)) ∧ w' = u) := fun u hu => heldEntryS_any ev l.length k u (p1.below hu) (by omega) hk0 (by omega)
 have P2 : Hid (∀ u, Below w.heap.size w u → Calls Tryz.prog 41 #[.agg #[.bool sl, sp, sc, sk, sb, sv], .int .i64 (k + 6 * l.length)] u fun e w' => e = .returned (.int .i64 (k + 6 * l.length + (mkT n T : Nat) + 4 * d.length)) ∧ Below u.heap.size u w') := fun u hu => heldMachine_m n ⟨⟨sl, sp, sc, sk, sb⟩, sv⟩ T d.length (k + 6 * l.length) u (p2.below hu) (by omega) (by omega)
 have y1 : ¬ (k + 6 * l.length < 0) := by omega
 have y2 : ¬ (k + 6 * l.length + (mkT n T : Nat) + 4 * d.length < 0) := by omega
 generalize hq2 : k + 6 * l.length + (mkT n T : Nat) + 4 * d.length = r2 at *
 generalize hq1 : k + 6 * l.length = r1 at *
 clear hq1 hq2 hk0 hk1 p1 p2
 have B1 : Hid (Below w.heap.size w (w.alloc (.cells #[.int .i64 kd, .int .i64 fr, .int .i64 tt, .int .i64 te, .int .i64 ix, .int .i64 it, .int .i64 cm, .bool ok, ev, .bool sl, sp, sc, sk, sb, sv] 57))) := bel_nw _ _
 have N1 : Hid ((w.alloc (.cells #[.int .i64 kd, .int .i64 fr, .int .i64 tt, .int .i64 te, .int .i64 ix, .int .i64 it, .int .i64 cm, .bool ok, ev, .bool sl, sp, sc, sk, sb, sv] 57)).heap[w.heap.size]? = some (.cells #[.int .i64 kd, .int .i64 fr, .int .i64 tt, .int .i64 te, .int .i64 ix, .int .i64 it, .int .i64 cm, .bool ok, ev, .bool sl, sp, sc, sk, sb, sv] 57 (0, 0))) := MBox.start 57 w #[.int .i64 kd, .int .i64 fr, .int .i64 tt, .int .i64 te, .int .i64 ix, .int .i64 it, .int .i64 cm, .bool ok, ev, .bool sl, sp, sc, sk, sb, sv]
 have c1 := fun j => cell_of_cells (j := j) N1.out
 show Calls Tryz.prog 16 #[.agg #[.int .i64 kd, .int .i64 fr, .int .i64 tt, .int .i64 te, .int .i64 ix, .int .i64 it, .int .i64 cm, .bool ok, ev, .bool sl, sp, sc, sk, sb, sv], .int .i64 k] w _
 go_enter Tryz.func16, Tryz.ntmps16
 go_wp2_with fail
 generalize w.alloc (.cells #[.int .i64 kd, .int .i64 fr, .int .i64 tt, .int .i64 te, .int .i64 ix, .int .i64 it, .int .i64 cm, .bool ok, ev, .bool sl, sp, sc, sk, sb, sv] 57) = W at *
 refine (P1.out _ B1.out).mono ?_
 rintro e w1 ⟨rfl, hw1⟩
 subst hw1
 go_wp2_with fail
 refine (P2.out _ B1.out).mono ?_
 rintro e w2 ⟨rfl, b⟩
 replace B1 := hid9c (Below.and B1.out b)
 clear b c1
 go_wp2
 go_ret
 exact ⟨rfl, B1.out⟩
end
section
open Go.RowKit

abbrev nodArr (N : NodV) : Array Value := #[.int .i64 N.id, .int .i64 N.te, .int .i64 N.vo, .int .i64 N.lb, .int .i64 N.lt, N.lv, .bool N.s.x.lf, N.s.x.p, N.s.x.c, N.s.x.k, N.s.x.b, N.s.v, .int .i64 N.ro, N.vv, N.nv, N.mv, .int .i64 N.cm, .bool N.o.x.lf, N.o.x.p, N.o.x.c, N.o.x.k, N.o.x.b, N.o.v]
def ones (j : Nat) (l : List Int) : List Int := List.replicate j 1 ++ l.drop j
end
section
open Go.RowKit
end
end Go.Proofs.YtmdajbbpigbdcaaGreat
