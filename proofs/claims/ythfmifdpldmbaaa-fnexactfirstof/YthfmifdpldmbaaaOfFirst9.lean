/-
  toRpc: what is told, copied out of the law's own kind, owns its memory.
  Lists of structs that hold lists of their own: the elements of a world.
-/
import Derived.Test.YthfmifdpldmbaaaOfFirst7
import Derived.Test.YthfmifdpldmbaaaOfFirst8
import Derived.Test.YthfmifdpldmbaaaOfFirst1
namespace Go.Proofs.Ythfmifdpldmbaaa
set_option maxRecDepth 100000
set_option maxHeartbeats 8000000
section
open Go.RowKit

def RpcOwn (n : Nat) (w : World) (base : Nat) (R : RpcV) (D : Rd) : Prop :=
 w.ownsRow base 136 6 R.ev D.l.length (flatE D.l) ∧ MacOwn n w base R.s D.T D.d
theorem RpcOwn.at {n : Nat} {w : World} {base : Nat} {R : RpcV} {D : Rd} (h : RpcOwn n w base R D) : RpcAt n w R D := ⟨Row.of_owns h.1, h.2.at⟩
def TR (w : World) (A C : Array Value) (u : World) : Prop := Below w.heap.size w u ∧ w.heap.size + 3 ≤ u.heap.size ∧ u.heap[w.heap.size]? = some (.cells A 82 (0, 0)) ∧ u.heap[w.heap.size + 1]? = some (.cells #[.int .i64 0, .int .i64 0, .int .i64 0, .int .i64 0, .int .i64 0, .int .i64 0, .int .i64 0, .bool false, .slice none 0 0, .bool false, .slice none 0 0, .slice none 0 0, .slice none 0 0, .slice none 0 0, .slice none 0 0] 97 (0, 0)) ∧ u.heap[w.heap.size + 1 + 1]? = some (.cells C 97 (0, 0))
theorem TR.step {w u u' : World} {A C : Array Value} (h : TR w A C u) (hb : Below u.heap.size u u') : TR w A C u' := ⟨Below.and h.1 hb, Nat.le_trans h.2.1 hb.size, step_at h.2.2.1 hb, step_at h.2.2.2.1 hb, step_at h.2.2.2.2 hb⟩
theorem TR.sets {w u u' : World} {A C C' : Array Value} (h : TR w A C u) (hc : Chg (fun g => g = w.heap.size + 1 + 1) u u') (h2 : u'.heap[w.heap.size + 1 + 1]? = some (.cells C' 97 (0, 0))) : TR w A C' u' :=
 ⟨h.1.trans (hc.below (fun g _ hg => by omega) h.1.size), Nat.le_trans h.2.1 hc.size, row_chg h.2.2.1 hc (by omega), row_chg h.2.2.2.1 hc (by omega), h2⟩

theorem toRpc_own (n : Nat) (N : RpcV) (D : Rd) (w : World) (h : RpcAt n w N D) (hs : D.small n) :
  Calls Try.prog 30 #[N.val] w fun e w' => ∃ M : RpcV, e = .returned M.val ∧ N.like M ∧ RpcOwn n w' w.heap.size M D ∧ Below w.heap.size w w' := by
 obtain ⟨kd, fr, tt, te, ix, it, cm, ok, ev, ⟨⟨sl, sp, sc, sk, sb⟩, sv⟩⟩ := N
 obtain ⟨p1, p2⟩ := h
 obtain ⟨hs1, hs2, hs3⟩ := hs
 have b0 : Below w.heap.size w (((w.alloc (.cells #[.int .i64 kd, .int .i64 fr, .int .i64 tt, .int .i64 te, .int .i64 ix, .int .i64 it, .int .i64 cm, .bool ok, ev, .bool sl, sp, sc, sk, sb, sv] 82)).alloc (.cells #[.int .i64 0, .int .i64 0, .int .i64 0, .int .i64 0, .int .i64 0, .int .i64 0, .int .i64 0, .bool false, .slice none 0 0, .bool false, .slice none 0 0, .slice none 0 0, .slice none 0 0, .slice none 0 0, .slice none 0 0] 97)).alloc (.cells #[.int .i64 kd, .int .i64 fr, .int .i64 tt, .int .i64 te, .int .i64 ix, .int .i64 it, .int .i64 cm, .bool ok, .slice none 0 0, .bool false, .slice none 0 0, .slice none 0 0, .slice none 0 0, .slice none 0 0, .slice none 0 0] 97)) := (((Below.refl _ _).alloc (Nat.le_refl _) _).alloc (by simp) _).alloc (by simp; omega) _
 have n0 := MBox.step (MBox.step (MBox.start 82 w #[.int .i64 kd, .int .i64 fr, .int .i64 tt, .int .i64 te, .int .i64 ix, .int .i64 it, .int .i64 cm, .bool ok, ev, .bool sl, sp, sc, sk, sb, sv]) (bel_nw _ (.cells #[.int .i64 0, .int .i64 0, .int .i64 0, .int .i64 0, .int .i64 0, .int .i64 0, .int .i64 0, .bool false, .slice none 0 0, .bool false, .slice none 0 0, .slice none 0 0, .slice none 0 0, .slice none 0 0, .slice none 0 0] 97))) (bel_nw _ (.cells #[.int .i64 kd, .int .i64 fr, .int .i64 tt, .int .i64 te, .int .i64 ix, .int .i64 it, .int .i64 cm, .bool ok, .slice none 0 0, .bool false, .slice none 0 0, .slice none 0 0, .slice none 0 0, .slice none 0 0, .slice none 0 0] 97))
 have n1 := MBox.step (MBox.start 97 (w.alloc (.cells #[.int .i64 kd, .int .i64 fr, .int .i64 tt, .int .i64 te, .int .i64 ix, .int .i64 it, .int .i64 cm, .bool ok, ev, .bool sl, sp, sc, sk, sb, sv] 82)) #[.int .i64 0, .int .i64 0, .int .i64 0, .int .i64 0, .int .i64 0, .int .i64 0, .int .i64 0, .bool false, .slice none 0 0, .bool false, .slice none 0 0, .slice none 0 0, .slice none 0 0, .slice none 0 0, .slice none 0 0]) (bel_nw _ (.cells #[.int .i64 kd, .int .i64 fr, .int .i64 tt, .int .i64 te, .int .i64 ix, .int .i64 it, .int .i64 cm, .bool ok, .slice none 0 0, .bool false, .slice none 0 0, .slice none 0 0, .slice none 0 0, .slice none 0 0, .slice none 0 0] 97))
 have n2 := MBox.start 97 ((w.alloc (.cells #[.int .i64 kd, .int .i64 fr, .int .i64 tt, .int .i64 te, .int .i64 ix, .int .i64 it, .int .i64 cm, .bool ok, ev, .bool sl, sp, sc, sk, sb, sv] 82)).alloc (.cells #[.int .i64 0, .int .i64 0, .int .i64 0, .int .i64 0, .int .i64 0, .int .i64 0, .int .i64 0, .bool false, .slice none 0 0, .bool false, .slice none 0 0, .slice none 0 0, .slice none 0 0, .slice none 0 0, .slice none 0 0] 97)) #[.int .i64 kd, .int .i64 fr, .int .i64 tt, .int .i64 te, .int .i64 ix, .int .i64 it, .int .i64 cm, .bool ok, .slice none 0 0, .bool false, .slice none 0 0, .slice none 0 0, .slice none 0 0, .slice none 0 0, .slice none 0 0]
 simp only [World.size_alloc] at n1 n2
 have zz : w.heap.size + 3 ≤ (((w.alloc (.cells #[.int .i64 kd, .int .i64 fr, .int .i64 tt, .int .i64 te, .int .i64 ix, .int .i64 it, .int .i64 cm, .bool ok, ev, .bool sl, sp, sc, sk, sb, sv] 82)).alloc (.cells #[.int .i64 0, .int .i64 0, .int .i64 0, .int .i64 0, .int .i64 0, .int .i64 0, .int .i64 0, .bool false, .slice none 0 0, .bool false, .slice none 0 0, .slice none 0 0, .slice none 0 0, .slice none 0 0, .slice none 0 0] 97)).alloc (.cells #[.int .i64 kd, .int .i64 fr, .int .i64 tt, .int .i64 te, .int .i64 ix, .int .i64 it, .int .i64 cm, .bool ok, .slice none 0 0, .bool false, .slice none 0 0, .slice none 0 0, .slice none 0 0, .slice none 0 0, .slice none 0 0] 97)).heap.size := by simp
 have c0 := n0.cells
 have G : Hid (TR w #[.int .i64 kd, .int .i64 fr, .int .i64 tt, .int .i64 te, .int .i64 ix, .int .i64 it, .int .i64 cm, .bool ok, ev, .bool sl, sp, sc, sk, sb, sv] #[.int .i64 kd, .int .i64 fr, .int .i64 tt, .int .i64 te, .int .i64 ix, .int .i64 it, .int .i64 cm, .bool ok, .slice none 0 0, .bool false, .slice none 0 0, .slice none 0 0, .slice none 0 0, .slice none 0 0, .slice none 0 0] (((w.alloc (.cells #[.int .i64 kd, .int .i64 fr, .int .i64 tt, .int .i64 te, .int .i64 ix, .int .i64 it, .int .i64 cm, .bool ok, ev, .bool sl, sp, sc, sk, sb, sv] 82)).alloc (.cells #[.int .i64 0, .int .i64 0, .int .i64 0, .int .i64 0, .int .i64 0, .int .i64 0, .int .i64 0, .bool false, .slice none 0 0, .bool false, .slice none 0 0, .slice none 0 0, .slice none 0 0, .slice none 0 0, .slice none 0 0] 97)).alloc (.cells #[.int .i64 kd, .int .i64 fr, .int .i64 tt, .int .i64 te, .int .i64 ix, .int .i64 it, .int .i64 cm, .bool ok, .slice none 0 0, .bool false, .slice none 0 0, .slice none 0 0, .slice none 0 0, .slice none 0 0, .slice none 0 0] 97))) := ⟨b0, zz, n0, n1, n2⟩
 have L1 : Hid (∀ u, Below w.heap.size w u → Calls Try.prog 48 #[ev] u fun e w' => ∃ v', e = .returned v' ∧ w'.ownsRow u.heap.size 136 6 v' D.l.length (flatE D.l) ∧ Below u.heap.size u w') := fun u hu => toEntryS_any ev D.l u (p1.below hu) hs1
 have L2 : Hid (∀ u, Below w.heap.size w u → Calls Try.prog 45 #[.agg #[.bool sl, sp, sc, sk, sb, sv]] u fun e w' => ∃ m' : MacV, e = .returned m'.val ∧ MacOwn n w' u.heap.size m' D.T D.d ∧ Below u.heap.size u w') := fun u hu => toMachine_own n ⟨⟨sl, sp, sc, sk, sb⟩, sv⟩ D.T D.d u (p2.below hu) hs2 hs3
 clear p1 p2 hs1 hs2 hs3 b0 n0 n1 n2 zz
 show Calls Try.prog 30 #[.agg #[.int .i64 kd, .int .i64 fr, .int .i64 tt, .int .i64 te, .int .i64 ix, .int .i64 it, .int .i64 cm, .bool ok, ev, .bool sl, sp, sc, sk, sb, sv]] w _
 go_enter Try.func30, Try.ntmps30
 go_upto_region 10 with fail
 generalize (((w.alloc (.cells #[.int .i64 kd, .int .i64 fr, .int .i64 tt, .int .i64 te, .int .i64 ix, .int .i64 it, .int .i64 cm, .bool ok, ev, .bool sl, sp, sc, sk, sb, sv] 82)).alloc (.cells #[.int .i64 0, .int .i64 0, .int .i64 0, .int .i64 0, .int .i64 0, .int .i64 0, .int .i64 0, .bool false, .slice none 0 0, .bool false, .slice none 0 0, .slice none 0 0, .slice none 0 0, .slice none 0 0, .slice none 0 0] 97)).alloc (.cells #[.int .i64 kd, .int .i64 fr, .int .i64 tt, .int .i64 te, .int .i64 ix, .int .i64 it, .int .i64 cm, .bool ok, .slice none 0 0, .bool false, .slice none 0 0, .slice none 0 0, .slice none 0 0, .slice none 0 0, .slice none 0 0] 97)) = W0 at *
 go_cut [] (fun wx => ∃ x0 : Option Addr × Nat × Nat, Hid (TR w #[.int .i64 kd, .int .i64 fr, .int .i64 tt, .int .i64 te, .int .i64 ix, .int .i64 it, .int .i64 cm, .bool ok, ev, .bool sl, sp, sc, sk, sb, sv] #[.int .i64 kd, .int .i64 fr, .int .i64 tt, .int .i64 te, .int .i64 ix, .int .i64 it, .int .i64 cm, .bool ok, .slice x0.1 x0.2.1 x0.2.2, .bool false, .slice none 0 0, .slice none 0 0, .slice none 0 0, .slice none 0 0, .slice none 0 0] wx) ∧ Hid (wx.ownsRow (w.heap.size + 3) 136 6 (.slice x0.1 x0.2.1 x0.2.2) D.l.length (flatE D.l)))
 case first =>
  as_aux_lemma =>
   go_wp2_with fail
   refine (L1.out _ G.out.1).mono ?_
   rintro e w1 ⟨z, rfl, oz, bz⟩
   obtain ⟨x0, hz⟩ := (Row.of_owns oz).sl
   subst hz
   have Oz := hid9 (owns_mono (base' := w.heap.size + 3) oz G.out.2.1)
   replace G := hid9 (G.out.step bz)
   clear oz bz c0
   have ff1 : ∀ j, w1.frozen? ⟨w.heap.size + 1 + 1, j, none⟩ = false := fun j => frozen_of_cells G.out.2.2.2.2
   have dd0 : ∀ j, w1.cell? ⟨w.heap.size + 1 + 1, j, none⟩ = (#[.int .i64 kd, .int .i64 fr, .int .i64 tt, .int .i64 te, .int .i64 ix, .int .i64 it, .int .i64 cm, .bool ok, .slice none 0 0, .bool false, .slice none 0 0, .slice none 0 0, .slice none 0 0, .slice none 0 0, .slice none 0 0] : Array Value)[j]? := fun j => cell_of_cells G.out.2.2.2.2
   have GC := hid9 ((Chg.refl (fun g => g = w.heap.size + 1 + 1) w1).setAt (w.heap.size + 1 + 1) 8 rfl (.slice x0.1 x0.2.1 x0.2.2))
   have n2 : (w1.setCell ⟨w.heap.size + 1 + 1, 8, none⟩ (.slice x0.1 x0.2.1 x0.2.2)).heap[w.heap.size + 1 + 1]? = some (.cells #[.int .i64 kd, .int .i64 fr, .int .i64 tt, .int .i64 te, .int .i64 ix, .int .i64 it, .int .i64 cm, .bool ok, .slice x0.1 x0.2.1 x0.2.2, .bool false, .slice none 0 0, .slice none 0 0, .slice none 0 0, .slice none 0 0, .slice none 0 0] 97 (0, 0)) := by simpa using (set_at 8 (.slice x0.1 x0.2.1 x0.2.2) G.out.2.2.2.2)
   have G2 := hid9 (G.out.sets GC.out n2)
   clear n2
   go_wp2_with fail
   go_meet
   exact ⟨x0, G2.out, owns_but Oz.out GC.out (by omega)⟩
 case rest =>
  clear G  c0
  obtain ⟨x0, G, O1⟩ := hcut
  go_upto_region 11 with fail
  go_cut [] (fun wx => ∃ (l1 : Bool) (x1 x2 x3 x4 x5 : Option Addr × Nat × Nat), Hid (TR w #[.int .i64 kd, .int .i64 fr, .int .i64 tt, .int .i64 te, .int .i64 ix, .int .i64 it, .int .i64 cm, .bool ok, ev, .bool sl, sp, sc, sk, sb, sv] #[.int .i64 kd, .int .i64 fr, .int .i64 tt, .int .i64 te, .int .i64 ix, .int .i64 it, .int .i64 cm, .bool ok, .slice x0.1 x0.2.1 x0.2.2, .bool l1, .slice x1.1 x1.2.1 x1.2.2, .slice x2.1 x2.2.1 x2.2.2, .slice x3.1 x3.2.1 x3.2.2, .slice x4.1 x4.2.1 x4.2.2, .slice x5.1 x5.2.1 x5.2.2] wx) ∧ Hid (wx.ownsRow (w.heap.size + 3) 136 6 (.slice x0.1 x0.2.1 x0.2.2) D.l.length (flatE D.l)) ∧ Hid (MacOwn n wx (w.heap.size + 3) ⟨⟨l1, .slice x1.1 x1.2.1 x1.2.2, .slice x2.1 x2.2.1 x2.2.2, .slice x3.1 x3.2.1 x3.2.2, .slice x4.1 x4.2.1 x4.2.2⟩, .slice x5.1 x5.2.1 x5.2.2⟩ D.T D.d))
  case first =>
   as_aux_lemma =>
    have c0 := fun j => cell_of_cells (j := j) G.out.2.2.1
    go_wp2_with fail
    refine (L2.out _ G.out.1).mono ?_
    rintro e w2 ⟨z, rfl, oz, bz⟩
    obtain ⟨l1, x1, x2, x3, x4, x5, hz⟩ := oz.at.sl
    subst hz
    have Oz := hid9 (oz.low (base' := w.heap.size + 3) G.out.2.1)
    replace G := hid9 (G.out.step bz)
    replace O1 := hid9 (owns_below O1.out bz)
    clear oz bz c0
    have ff1 : ∀ j, w2.frozen? ⟨w.heap.size + 1 + 1, j, none⟩ = false := fun j => frozen_of_cells G.out.2.2.2.2
    have dd0 : ∀ j, w2.cell? ⟨w.heap.size + 1 + 1, j, none⟩ = (#[.int .i64 kd, .int .i64 fr, .int .i64 tt, .int .i64 te, .int .i64 ix, .int .i64 it, .int .i64 cm, .bool ok, .slice x0.1 x0.2.1 x0.2.2, .bool false, .slice none 0 0, .slice none 0 0, .slice none 0 0, .slice none 0 0, .slice none 0 0] : Array Value)[j]? := fun j => cell_of_cells G.out.2.2.2.2
    have GC := hid9 (((((((Chg.refl (fun g => g = w.heap.size + 1 + 1) w2).setAt (w.heap.size + 1 + 1) 9 rfl (.bool l1)).setAt (w.heap.size + 1 + 1) 10 rfl (.slice x1.1 x1.2.1 x1.2.2)).setAt (w.heap.size + 1 + 1) 11 rfl (.slice x2.1 x2.2.1 x2.2.2)).setAt (w.heap.size + 1 + 1) 12 rfl (.slice x3.1 x3.2.1 x3.2.2)).setAt (w.heap.size + 1 + 1) 13 rfl (.slice x4.1 x4.2.1 x4.2.2)).setAt (w.heap.size + 1 + 1) 14 rfl (.slice x5.1 x5.2.1 x5.2.2))
    have n2 : ((((((w2.setCell ⟨w.heap.size + 1 + 1, 9, none⟩ (.bool l1)).setCell ⟨w.heap.size + 1 + 1, 10, none⟩ (.slice x1.1 x1.2.1 x1.2.2)).setCell ⟨w.heap.size + 1 + 1, 11, none⟩ (.slice x2.1 x2.2.1 x2.2.2)).setCell ⟨w.heap.size + 1 + 1, 12, none⟩ (.slice x3.1 x3.2.1 x3.2.2)).setCell ⟨w.heap.size + 1 + 1, 13, none⟩ (.slice x4.1 x4.2.1 x4.2.2)).setCell ⟨w.heap.size + 1 + 1, 14, none⟩ (.slice x5.1 x5.2.1 x5.2.2)).heap[w.heap.size + 1 + 1]? = some (.cells #[.int .i64 kd, .int .i64 fr, .int .i64 tt, .int .i64 te, .int .i64 ix, .int .i64 it, .int .i64 cm, .bool ok, .slice x0.1 x0.2.1 x0.2.2, .bool l1, .slice x1.1 x1.2.1 x1.2.2, .slice x2.1 x2.2.1 x2.2.2, .slice x3.1 x3.2.1 x3.2.2, .slice x4.1 x4.2.1 x4.2.2, .slice x5.1 x5.2.1 x5.2.2] 97 (0, 0)) := by simpa using (set_at 14 (.slice x5.1 x5.2.1 x5.2.2) (set_at 13 (.slice x4.1 x4.2.1 x4.2.2) (set_at 12 (.slice x3.1 x3.2.1 x3.2.2) (set_at 11 (.slice x2.1 x2.2.1 x2.2.2) (set_at 10 (.slice x1.1 x1.2.1 x1.2.2) (set_at 9 (.bool l1) G.out.2.2.2.2))))))
    have G2 := hid9 (G.out.sets GC.out n2)
    clear n2
    go_wp2_with fail
    go_meet
    exact ⟨l1, x1, x2, x3, x4, x5, G2.out, owns_but O1.out GC.out (by omega), Oz.out.but GC.out (by omega)⟩
  case rest =>
   clear G O1
   obtain ⟨l1, x1, x2, x3, x4, x5, G, O1, O2⟩ := hcut
   have RG : Hid (wc.rangeAt (w.heap.size + 1 + 1) 0 ([.int .i64 kd, .int .i64 fr, .int .i64 tt, .int .i64 te, .int .i64 ix, .int .i64 it, .int .i64 cm, .bool ok, .slice x0.1 x0.2.1 x0.2.2, .bool l1, .slice x1.1 x1.2.1 x1.2.2, .slice x2.1 x2.2.1 x2.2.2, .slice x3.1 x3.2.1 x3.2.2, .slice x4.1 x4.2.1 x4.2.2, .slice x5.1 x5.2.1 x5.2.2] : List Value)) := range_of G.out.2.2.2.2
   have TH : Hid (wc.there (w.heap.size + 1) 0 (List.toArray ([.int .i64 kd, .int .i64 fr, .int .i64 tt, .int .i64 te, .int .i64 ix, .int .i64 it, .int .i64 cm, .bool ok, .slice x0.1 x0.2.1 x0.2.2, .bool l1, .slice x1.1 x1.2.1 x1.2.2, .slice x2.1 x2.2.1 x2.2.2, .slice x3.1 x3.2.1 x3.2.2, .slice x4.1 x4.2.1 x4.2.2, .slice x5.1 x5.2.1 x5.2.2] : List Value)).size) := there_of G.out.2.2.2.1 rfl
   have HI : Hid ((Try.prog.info? 97).map (·.size) = some (List.length ([.int .i64 kd, .int .i64 fr, .int .i64 tt, .int .i64 te, .int .i64 ix, .int .i64 it, .int .i64 cm, .bool ok, .slice x0.1 x0.2.1 x0.2.2, .bool l1, .slice x1.1 x1.2.1 x1.2.2, .slice x2.1 x2.2.1 x2.2.2, .slice x3.1 x3.2.1 x3.2.2, .slice x4.1 x4.2.1 x4.2.2, .slice x5.1 x5.2.1 x5.2.2] : List Value))) := (show (Try.prog.info? 97).map (·.size) = some 15 by kernel_rfl)
   have HJ : Hid ((Try.prog.info? 97).map (·.size) = some (List.toArray ([.int .i64 kd, .int .i64 fr, .int .i64 tt, .int .i64 te, .int .i64 ix, .int .i64 it, .int .i64 cm, .bool ok, .slice x0.1 x0.2.1 x0.2.2, .bool l1, .slice x1.1 x1.2.1 x1.2.2, .slice x2.1 x2.2.1 x2.2.2, .slice x3.1 x3.2.1 x3.2.2, .slice x4.1 x4.2.1 x4.2.2, .slice x5.1 x5.2.1 x5.2.2] : List Value)).size) := (show (Try.prog.info? 97).map (·.size) = some 15 by kernel_rfl)
   have ONE : Hid ((List.toArray ([.int .i64 kd, .int .i64 fr, .int .i64 tt, .int .i64 te, .int .i64 ix, .int .i64 it, .int .i64 cm, .bool ok, .slice x0.1 x0.2.1 x0.2.2, .bool l1, .slice x1.1 x1.2.1 x1.2.2, .slice x2.1 x2.2.1 x2.2.2, .slice x3.1 x3.2.1 x3.2.2, .slice x4.1 x4.2.1 x4.2.2, .slice x5.1 x5.2.1 x5.2.2] : List Value)).all (·.oneCell') = true) := by show _ = _; simp [Value.oneCell']
   have GC : Hid (Chg (fun g => g = w.heap.size + 1) wc (wc.setCells (w.heap.size + 1) 0 ([.int .i64 kd, .int .i64 fr, .int .i64 tt, .int .i64 te, .int .i64 ix, .int .i64 it, .int .i64 cm, .bool ok, .slice x0.1 x0.2.1 x0.2.2, .bool l1, .slice x1.1 x1.2.1 x1.2.2, .slice x2.1 x2.2.1 x2.2.2, .slice x3.1 x3.2.1 x3.2.2, .slice x4.1 x4.2.1 x4.2.2, .slice x5.1 x5.2.1 x5.2.2] : List Value))) := Chg.setCells (F := fun g => g = w.heap.size + 1) (g := w.heap.size + 1) (fun _ => rfl) ([.int .i64 kd, .int .i64 fr, .int .i64 tt, .int .i64 te, .int .i64 ix, .int .i64 it, .int .i64 cm, .bool ok, .slice x0.1 x0.2.1 x0.2.2, .bool l1, .slice x1.1 x1.2.1 x1.2.2, .slice x2.1 x2.2.1 x2.2.2, .slice x3.1 x3.2.1 x3.2.2, .slice x4.1 x4.2.1 x4.2.2, .slice x5.1 x5.2.1 x5.2.2] : List Value) 0 wc (Chg.refl _ _)
   have X1 : Hid ((wc.setCells (w.heap.size + 1) 0 ([.int .i64 kd, .int .i64 fr, .int .i64 tt, .int .i64 te, .int .i64 ix, .int .i64 it, .int .i64 cm, .bool ok, .slice x0.1 x0.2.1 x0.2.2, .bool l1, .slice x1.1 x1.2.1 x1.2.2, .slice x2.1 x2.2.1 x2.2.2, .slice x3.1 x3.2.1 x3.2.2, .slice x4.1 x4.2.1 x4.2.2, .slice x5.1 x5.2.1 x5.2.2] : List Value)).heap[w.heap.size + 1]? = some (.cells (List.toArray ([.int .i64 kd, .int .i64 fr, .int .i64 tt, .int .i64 te, .int .i64 ix, .int .i64 it, .int .i64 cm, .bool ok, .slice x0.1 x0.2.1 x0.2.2, .bool l1, .slice x1.1 x1.2.1 x1.2.2, .slice x2.1 x2.2.1 x2.2.2, .slice x3.1 x3.2.1 x3.2.2, .slice x4.1 x4.2.1 x4.2.2, .slice x5.1 x5.2.1 x5.2.2] : List Value)) 97 (0, 0))) := setAll_at G.out.2.2.2.1 ([.int .i64 kd, .int .i64 fr, .int .i64 tt, .int .i64 te, .int .i64 ix, .int .i64 it, .int .i64 cm, .bool ok, .slice x0.1 x0.2.1 x0.2.2, .bool l1, .slice x1.1 x1.2.1 x1.2.2, .slice x2.1 x2.2.1 x2.2.2, .slice x3.1 x3.2.1 x3.2.2, .slice x4.1 x4.2.1 x4.2.2, .slice x5.1 x5.2.1 x5.2.2] : List Value) rfl
   have B2 := hid9 (G.out.1.trans (GC.out.below (fun g _ hg => by omega) G.out.1.size))
   have MV : Hid (Value.agg (List.toArray ([.int .i64 kd, .int .i64 fr, .int .i64 tt, .int .i64 te, .int .i64 ix, .int .i64 it, .int .i64 cm, .bool ok, .slice x0.1 x0.2.1 x0.2.2, .bool l1, .slice x1.1 x1.2.1 x1.2.2, .slice x2.1 x2.2.1 x2.2.2, .slice x3.1 x3.2.1 x3.2.2, .slice x4.1 x4.2.1 x4.2.2, .slice x5.1 x5.2.1 x5.2.2] : List Value)) = RpcV.val ⟨kd, fr, tt, te, ix, it, cm, ok, .slice x0.1 x0.2.1 x0.2.2, ⟨⟨l1, .slice x1.1 x1.2.1 x1.2.2, .slice x2.1 x2.2.1 x2.2.2, .slice x3.1 x3.2.1 x3.2.2, .slice x4.1 x4.2.1 x4.2.2⟩, .slice x5.1 x5.2.1 x5.2.2⟩⟩) := by show _ = _; rfl
   replace O1 := hid9 (owns_mono (base' := w.heap.size) (owns_but O1.out GC.out (by omega)) (by omega))
   replace O2 := hid9 ((O2.out.but GC.out (by omega)).low (base' := w.heap.size) (by omega))
   have FIN : Hid (∃ M : RpcV, Value.agg (List.toArray ([.int .i64 kd, .int .i64 fr, .int .i64 tt, .int .i64 te, .int .i64 ix, .int .i64 it, .int .i64 cm, .bool ok, .slice x0.1 x0.2.1 x0.2.2, .bool l1, .slice x1.1 x1.2.1 x1.2.2, .slice x2.1 x2.2.1 x2.2.2, .slice x3.1 x3.2.1 x3.2.2, .slice x4.1 x4.2.1 x4.2.2, .slice x5.1 x5.2.1 x5.2.2] : List Value)) = M.val ∧ RpcV.like ⟨kd, fr, tt, te, ix, it, cm, ok, ev, ⟨⟨sl, sp, sc, sk, sb⟩, sv⟩⟩ M ∧ RpcOwn n (wc.setCells (w.heap.size + 1) 0 ([.int .i64 kd, .int .i64 fr, .int .i64 tt, .int .i64 te, .int .i64 ix, .int .i64 it, .int .i64 cm, .bool ok, .slice x0.1 x0.2.1 x0.2.2, .bool l1, .slice x1.1 x1.2.1 x1.2.2, .slice x2.1 x2.2.1 x2.2.2, .slice x3.1 x3.2.1 x3.2.2, .slice x4.1 x4.2.1 x4.2.2, .slice x5.1 x5.2.1 x5.2.2] : List Value)) w.heap.size M D ∧ Below w.heap.size w (wc.setCells (w.heap.size + 1) 0 ([.int .i64 kd, .int .i64 fr, .int .i64 tt, .int .i64 te, .int .i64 ix, .int .i64 it, .int .i64 cm, .bool ok, .slice x0.1 x0.2.1 x0.2.2, .bool l1, .slice x1.1 x1.2.1 x1.2.2, .slice x2.1 x2.2.1 x2.2.2, .slice x3.1 x3.2.1 x3.2.2, .slice x4.1 x4.2.1 x4.2.2, .slice x5.1 x5.2.1 x5.2.2] : List Value))) := ⟨_, MV.out, ⟨rfl, rfl, rfl, rfl, rfl, rfl, rfl, rfl⟩, ⟨O1.out, O2.out⟩, B2.out⟩
   clear GC G B2 MV O1 O2
   generalize ([.int .i64 kd, .int .i64 fr, .int .i64 tt, .int .i64 te, .int .i64 ix, .int .i64 it, .int .i64 cm, .bool ok, .slice x0.1 x0.2.1 x0.2.2, .bool l1, .slice x1.1 x1.2.1 x1.2.2, .slice x2.1 x2.2.1 x2.2.2, .slice x3.1 x3.2.1 x3.2.2, .slice x4.1 x4.2.1 x4.2.2, .slice x5.1 x5.2.1 x5.2.2] : List Value) = cs at *
   go_wp2_with (first | (refine wpList_load_mid rfl 97 _ rfl (w.heap.size + 1 + 1) 0 rfl cs _ RG.out Try.underlying97 rfl HI.out ?_) | (refine wpList_store_mid rfl 97 _ _ rfl (w.heap.size + 1) 0 cs.toArray rfl rfl TH.out HJ.out ONE.out ?_))
   generalize wc.setCells (w.heap.size + 1) 0 cs = WF at *
   exact ⟨rfl, _, results_cell_row Try.results30 _ WF (w.heap.size + 1) 97 cs.toArray (0, 0) _ rfl X1.out Try.underlying97 rfl HJ.out, (by obtain ⟨M, e, r⟩ := FIN.out; exact ⟨M, by rw [e], r⟩)⟩
end
section
open Go.RowKit

def LsAt {ε : Type} (cs : ε → List Value) (At : World → ε → Prop) (w : World) (v : Value) (es : List ε) : Prop := Row w v es.length (es.map cs).flatten ∧ ∀ e ∈ es, At w e
theorem allK_map {ε : Type} {cs : ε → List Value} {K : Nat} (hK : ∀ e, (cs e).length = K) (es : List ε) : AllK K (es.map cs) := fun l hl => by
 obtain ⟨e, _, rfl⟩ := List.mem_map.1 hl
 exact hK e
theorem LsAt.parts {ε : Type} {cs : ε → List Value} {At : World → ε → Prop} {w : World} {v : Value} {es : List ε} {K : Nat} (hK : ∀ e, (cs e).length = K) (h : LsAt cs At w v es) :
  ∃ (a : Option Addr) (b off cap : Nat), v = .slice a es.length cap ∧ es.length ≤ cap ∧ cap ≤ maxLen ∧ (0 < es.length → a = some ⟨b, off, none⟩) ∧ ∀ u, Below w.heap.size w u → ∀ (i : Nat) (hi : i < es.length), u.rangeAt b (off + i * K) (cs es[i]) := by
 have h1 := h.1
 rw [show es.length = (es.map cs).length by simp] at h1
 obtain ⟨a, b, off, cap, q1, q2, q3, q4, q5⟩ := Row.rangeL (allK_map hK es) h1
 rw [List.length_map] at q1 q2 q4
 refine ⟨a, b, off, cap, q1, q2, q3, q4, fun u hu i hi => ?_⟩
 have := q5 u hu i (by simpa using hi)
 rwa [List.getElem_map] at this
theorem LsAt.below {ε : Type} {cs : ε → List Value} {At : World → ε → Prop} (hAt : ∀ w u e, At w e → Below w.heap.size w u → At u e) {w u : World} {v : Value} {es : List ε} (h : LsAt cs At w v es) (hb : Below w.heap.size w u) : LsAt cs At u v es :=
 ⟨h.1.below hb, fun e he => hAt w u e (h.2 e he) hb⟩
def LsLk {ε : Type} (lk : ε → ε → Prop) (es fs : List ε) : Prop := es.length = fs.length ∧ ∀ i (h : i < es.length) (h' : i < fs.length), lk es[i] fs[i]
theorem LsLk.snoc {ε : Type} {lk : ε → ε → Prop} {es fs : List ε} {k : Nat} (hk : k < es.length) {y : ε} (h : LsLk lk (es.take k) fs) (hy : lk es[k] y) : LsLk lk (es.take (k + 1)) (fs ++ [y]) := by
 have hl : fs.length = k := by have := h.1; rw [List.length_take] at this; omega
 refine ⟨by simp [hl]; omega, fun i h1 h2 => ?_⟩
 rw [List.getElem_take]
 by_cases hi : i < k
 ·rw [List.getElem_append_left (by omega)]
  have := h.2 i (by rw [List.length_take]; omega) (by omega)
  rwa [List.getElem_take] at this
 ·rw [List.length_take] at h1
  have e : i = k := by omega
  subst e
  rw [List.getElem_append_right (by omega)]
  simp only [hl, Nat.sub_self, List.getElem_singleton]
  exact hy
def sumE {ε : Type} (f : ε → Nat) (es : List ε) (k : Nat) : Nat := ((es.take k).map f).sum
theorem sumE_succ {ε : Type} (f : ε → Nat) (es : List ε) (k : Nat) (h : k < es.length) : sumE f es (k + 1) = sumE f es k + f es[k] := by
 unfold sumE
 rw [List.take_succ_eq_append_getElem h, List.map_append, List.sum_append]
 simp
theorem le_sumL : ∀ {l : List Nat} {x : Nat}, x ∈ l → x ≤ l.sum
 | [], _, h => by cases h
 | a :: l, x, h => by
  rw [List.sum_cons]
  rcases List.mem_cons.1 h with rfl | h
  ·omega
  ·have := le_sumL h; omega
theorem sumE_ge {ε : Type} (f : ε → Nat) (es : List ε) : ∀ e ∈ es, f e ≤ sumE f es es.length := fun e he => by
 unfold sumE
 rw [List.take_length]
 exact le_sumL (List.mem_map.2 ⟨_, he, rfl⟩)
theorem made_flat (z : List Value) (K : Nat) (hz : z.length = K) (hK : 0 < K) (n : Nat) : (madeCells z.toArray (n * K)).toList = (List.replicate n z).flatten := by
 have ha : AllK K (List.replicate n z) := fun l hl => by rw [(List.mem_replicate.1 hl).2]; exact hz
 apply List.ext_getElem?
 intro j
 by_cases hj : j < n * K
 ·have hd : j / K < n := Nat.div_lt_of_lt_mul (by rw [Nat.mul_comm]; exact hj)
  have hm : j % K < K := Nat.mod_lt _ hK
  have := ha.at (j / K) (by simpa using hd) (j % K) hm
  have e : j / K * K + j % K = j := by rw [Nat.mul_comm]; exact Nat.div_add_mod j K
  rw [e] at this
  rw [this]
  have h3 : j % K < z.length := by omega
  simp [madeCells, hj, hz]
  rw [List.getElem?_eq_getElem h3]
  rfl
 ·rw [List.getElem?_eq_none (by simp [size_madeCells]; omega), List.getElem?_eq_none (by rw [ha.len]; simp; omega)]

/-! the kinds -/
abbrev NodE := NodV × Nd
def nodC (e : NodE) : List Value := [.int .i64 e.1.id, .int .i64 e.1.te, .int .i64 e.1.vo, .int .i64 e.1.lb, .int .i64 e.1.lt, e.1.lv, .bool e.1.s.x.lf, e.1.s.x.p, e.1.s.x.c, e.1.s.x.k, e.1.s.x.b, e.1.s.v, .int .i64 e.1.ro, e.1.vv, e.1.nv, e.1.mv, .int .i64 e.1.cm, .bool e.1.o.x.lf, e.1.o.x.p, e.1.o.x.c, e.1.o.x.k, e.1.o.x.b, e.1.o.v]
def nodAt (n : Nat) (w : World) (e : NodE) : Prop := NodAt n w e.1 e.2
def nodOwn (n : Nat) (base : Nat) (w : World) (e : NodE) : Prop := NodOwn n w base e.1 e.2
def nodLk (e f : NodE) : Prop := e.1.like f.1 ∧ e.2 = f.2
def nodN (n : Nat) (e : NodE) : Nat := Nd.all n e.2
def nodZ : List Value := [.int .i64 0, .int .i64 0, .int .i64 0, .int .i64 0, .int .i64 0, .slice none 0 0, .bool false, .slice none 0 0, .slice none 0 0, .slice none 0 0, .slice none 0 0, .slice none 0 0, .int .i64 0, .slice none 0 0, .slice none 0 0, .slice none 0 0, .int .i64 0, .bool false, .slice none 0 0, .slice none 0 0, .slice none 0 0, .slice none 0 0, .slice none 0 0]
abbrev RpcE := RpcV × Rd
def rpcC (e : RpcE) : List Value := [.int .i64 e.1.kd, .int .i64 e.1.fr, .int .i64 e.1.tt, .int .i64 e.1.te, .int .i64 e.1.ix, .int .i64 e.1.it, .int .i64 e.1.cm, .bool e.1.ok, e.1.ev, .bool e.1.s.x.lf, e.1.s.x.p, e.1.s.x.c, e.1.s.x.k, e.1.s.x.b, e.1.s.v]
def rpcAt (n : Nat) (w : World) (e : RpcE) : Prop := RpcAt n w e.1 e.2
def rpcOwn (n : Nat) (base : Nat) (w : World) (e : RpcE) : Prop := RpcOwn n w base e.1 e.2
def rpcLk (e f : RpcE) : Prop := e.1.like f.1 ∧ e.2 = f.2
def rpcN (n : Nat) (e : RpcE) : Nat := Rd.all n e.2
def rpcZ : List Value := [.int .i64 0, .int .i64 0, .int .i64 0, .int .i64 0, .int .i64 0, .int .i64 0, .int .i64 0, .bool false, .slice none 0 0, .bool false, .slice none 0 0, .slice none 0 0, .slice none 0 0, .slice none 0 0, .slice none 0 0]
abbrev CmdE := Int × Int × Int × Int × Int
def cmdC (e : CmdE) : List Value := [.int .i64 e.1, .int .i64 e.2.1, .int .i64 e.2.2.1, .int .i64 e.2.2.2.1, .int .i64 e.2.2.2.2]
def cmdZ : List Value := [.int .i64 0, .int .i64 0, .int .i64 0, .int .i64 0, .int .i64 0]
abbrev LedE := Int × Int
def ledC (e : LedE) : List Value := [.int .i64 e.1, .int .i64 e.2]
def ledZ : List Value := [.int .i64 0, .int .i64 0]
def noAt {ε : Type} (_ : World) (_ : ε) : Prop := True
theorem NodOwn.below {n : Nat} {w u : World} {base : Nat} {N : NodV} {D : Nd} (h : NodOwn n w base N D) (hb : Below w.heap.size w u) : NodOwn n u base N D := ⟨owns_below h.1 hb, h.2.1.below hb, owns_below h.2.2.1 hb, owns_below h.2.2.2.1 hb, owns_below h.2.2.2.2.1 hb, h.2.2.2.2.2.below hb⟩
theorem NodOwn.low {n : Nat} {w : World} {base b : Nat} {N : NodV} {D : Nd} (h : NodOwn n w base N D) (hb : b ≤ base) : NodOwn n w b N D := ⟨owns_mono h.1 hb, h.2.1.low hb, owns_mono h.2.2.1 hb, owns_mono h.2.2.2.1 hb, owns_mono h.2.2.2.2.1 hb, h.2.2.2.2.2.low hb⟩
theorem NodOwn.but {n : Nat} {w u : World} {base R : Nat} {N : NodV} {D : Nd} (h : NodOwn n w base N D) (hc : Chg (fun g => g = R) w u) (hR : R < base) : NodOwn n u base N D := ⟨owns_but h.1 hc hR, h.2.1.but hc hR, owns_but h.2.2.1 hc hR, owns_but h.2.2.2.1 hc hR, owns_but h.2.2.2.2.1 hc hR, h.2.2.2.2.2.but hc hR⟩
theorem RpcOwn.below {n : Nat} {w u : World} {base : Nat} {N : RpcV} {D : Rd} (h : RpcOwn n w base N D) (hb : Below w.heap.size w u) : RpcOwn n u base N D := ⟨owns_below h.1 hb, h.2.below hb⟩
theorem RpcOwn.low {n : Nat} {w : World} {base b : Nat} {N : RpcV} {D : Rd} (h : RpcOwn n w base N D) (hb : b ≤ base) : RpcOwn n w b N D := ⟨owns_mono h.1 hb, h.2.low hb⟩
theorem RpcOwn.but {n : Nat} {w u : World} {base R : Nat} {N : RpcV} {D : Rd} (h : RpcOwn n w base N D) (hc : Chg (fun g => g = R) w u) (hR : R < base) : RpcOwn n u base N D := ⟨owns_but h.1 hc hR, h.2.but hc hR⟩
end
end Go.Proofs.Ythfmifdpldmbaaa
