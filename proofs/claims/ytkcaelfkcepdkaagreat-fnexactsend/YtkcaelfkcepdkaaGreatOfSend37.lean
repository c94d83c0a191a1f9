/-
  The program's copyOfRpc.
  The program's slices.Clone, of commands and of Leads.
  One struct behind a list of them: the slice literal of one, and the row that an append leaves.
  The model's copy of a log.
-/
import Derived.Test.YtkcaelfkcepdkaaGreatOfSend27
import Derived.Test.YtkcaelfkcepdkaaGreatOfSend36
import Derived.Test.YtkcaelfkcepdkaaGreatOfSend23
import Derived.Test.YtkcaelfkcepdkaaGreatOfSend22
import Derived.Test.YtkcaelfkcepdkaaGreatOfSend1
import Derived.Test.YtkcaelfkcepdkaaGreatOfSend9
import Derived.Great.Walk
import Derived.Great.FillDense
import Derived.Test.YtkcaelfkcepdkaaGreatOfSend24
import Derived.Deep.RegionHeld3
namespace Go.Proofs.YtkcaelfkcepdkaaGreat
set_option maxRecDepth 100000
set_option maxHeartbeats 8000000
section
open Go.RowKit

def CRp (w : World) (A : Array Value) (u : World) : Prop := Below w.heap.size w u ∧ w.heap.size + 2 ≤ u.heap.size ∧ u.heap[w.heap.size]? = some (.cells A 87 (0, 0)) ∧ u.heap[w.heap.size + 1]? = some (.cells #[.int .i64 0, .int .i64 0, .int .i64 0, .int .i64 0, .int .i64 0, .int .i64 0, .int .i64 0, .bool false, .slice none 0 0, .bool false, .slice none 0 0, .slice none 0 0, .slice none 0 0, .slice none 0 0, .slice none 0 0] 87 (0, 0))
theorem CRp.step {w u u' : World} {A : Array Value} (h : CRp w A u) (hb : Below u.heap.size u u') : CRp w A u' := ⟨Below.and h.1 hb, Nat.le_trans h.2.1 hb.size, step_at h.2.2.1 hb, step_at h.2.2.2 hb⟩
theorem CRp.sets {w u u' : World} {A A' : Array Value} (h : CRp w A u) (hc : Chg (fun g => g = w.heap.size) u u') (h2 : u'.heap[w.heap.size]? = some (.cells A' 87 (0, 0))) : CRp w A' u' :=
 ⟨h.1.trans (hc.below (fun g _ hg => by omega) h.1.size), Nat.le_trans h.2.1 hc.size, h2, row_chg h.2.2.2 hc (by omega)⟩

theorem copyOfRpc_any (n : Nat) (N : RpcV) (D : Rd) (F : Nat → Prop) (w : World) (h : RpcAt n w N D) (hs : D.small n) (s1 : Src true n w F N.s.x D.T) :
  Calls Tryz.prog 84 #[N.val] w fun e w' => ∃ M : RpcV, e = .returned M.val ∧ N.like M ∧ RpcDs n w' w.heap.size M D ∧ Below w.heap.size w w' := by
 obtain ⟨kd, fr, tt, te, ix, it, cm, ok, ev, m⟩ := N
 obtain ⟨p1, p2⟩ := h
 obtain ⟨xe, hz⟩ := p1.sl
 simp only at hz
 subst hz
 obtain ⟨l0, y1, y2, y3, y4, y5, hz⟩ := p2.sl
 simp only at hz
 subst hz
 obtain ⟨hs1, hs2, hs3⟩ := hs
 have b0 : Below w.heap.size w ((w.alloc (.cells #[.int .i64 kd, .int .i64 fr, .int .i64 tt, .int .i64 te, .int .i64 ix, .int .i64 it, .int .i64 cm, .bool ok, .slice xe.1 xe.2.1 xe.2.2, .bool l0, .slice y1.1 y1.2.1 y1.2.2, .slice y2.1 y2.2.1 y2.2.2, .slice y3.1 y3.2.1 y3.2.2, .slice y4.1 y4.2.1 y4.2.2, .slice y5.1 y5.2.1 y5.2.2] 87)).alloc (.cells #[.int .i64 0, .int .i64 0, .int .i64 0, .int .i64 0, .int .i64 0, .int .i64 0, .int .i64 0, .bool false, .slice none 0 0, .bool false, .slice none 0 0, .slice none 0 0, .slice none 0 0, .slice none 0 0, .slice none 0 0] 87)) := Below.and (bel_nw _ _) (bel_nw _ _)
 have n0 := MBox.step (MBox.start 87 w #[.int .i64 kd, .int .i64 fr, .int .i64 tt, .int .i64 te, .int .i64 ix, .int .i64 it, .int .i64 cm, .bool ok, .slice xe.1 xe.2.1 xe.2.2, .bool l0, .slice y1.1 y1.2.1 y1.2.2, .slice y2.1 y2.2.1 y2.2.2, .slice y3.1 y3.2.1 y3.2.2, .slice y4.1 y4.2.1 y4.2.2, .slice y5.1 y5.2.1 y5.2.2]) (bel_nw _ (.cells #[.int .i64 0, .int .i64 0, .int .i64 0, .int .i64 0, .int .i64 0, .int .i64 0, .int .i64 0, .bool false, .slice none 0 0, .bool false, .slice none 0 0, .slice none 0 0, .slice none 0 0, .slice none 0 0, .slice none 0 0] 87))
 have n1 := MBox.start 87 (w.alloc (.cells #[.int .i64 kd, .int .i64 fr, .int .i64 tt, .int .i64 te, .int .i64 ix, .int .i64 it, .int .i64 cm, .bool ok, .slice xe.1 xe.2.1 xe.2.2, .bool l0, .slice y1.1 y1.2.1 y1.2.2, .slice y2.1 y2.2.1 y2.2.2, .slice y3.1 y3.2.1 y3.2.2, .slice y4.1 y4.2.1 y4.2.2, .slice y5.1 y5.2.1 y5.2.2] 87)) #[.int .i64 0, .int .i64 0, .int .i64 0, .int .i64 0, .int .i64 0, .int .i64 0, .int .i64 0, .bool false, .slice none 0 0, .bool false, .slice none 0 0, .slice none 0 0, .slice none 0 0, .slice none 0 0, .slice none 0 0]
 simp only [World.size_alloc] at n1
 have zz : w.heap.size + 2 ≤ ((w.alloc (.cells #[.int .i64 kd, .int .i64 fr, .int .i64 tt, .int .i64 te, .int .i64 ix, .int .i64 it, .int .i64 cm, .bool ok, .slice xe.1 xe.2.1 xe.2.2, .bool l0, .slice y1.1 y1.2.1 y1.2.2, .slice y2.1 y2.2.1 y2.2.2, .slice y3.1 y3.2.1 y3.2.2, .slice y4.1 y4.2.1 y4.2.2, .slice y5.1 y5.2.1 y5.2.2] 87)).alloc (.cells #[.int .i64 0, .int .i64 0, .int .i64 0, .int .i64 0, .int .i64 0, .int .i64 0, .int .i64 0, .bool false, .slice none 0 0, .bool false, .slice none 0 0, .slice none 0 0, .slice none 0 0, .slice none 0 0, .slice none 0 0] 87)).heap.size := by simp
 have G : Hid (CRp w #[.int .i64 kd, .int .i64 fr, .int .i64 tt, .int .i64 te, .int .i64 ix, .int .i64 it, .int .i64 cm, .bool ok, .slice xe.1 xe.2.1 xe.2.2, .bool l0, .slice y1.1 y1.2.1 y1.2.2, .slice y2.1 y2.2.1 y2.2.2, .slice y3.1 y3.2.1 y3.2.2, .slice y4.1 y4.2.1 y4.2.2, .slice y5.1 y5.2.1 y5.2.2] ((w.alloc (.cells #[.int .i64 kd, .int .i64 fr, .int .i64 tt, .int .i64 te, .int .i64 ix, .int .i64 it, .int .i64 cm, .bool ok, .slice xe.1 xe.2.1 xe.2.2, .bool l0, .slice y1.1 y1.2.1 y1.2.2, .slice y2.1 y2.2.1 y2.2.2, .slice y3.1 y3.2.1 y3.2.2, .slice y4.1 y4.2.1 y4.2.2, .slice y5.1 y5.2.1 y5.2.2] 87)).alloc (.cells #[.int .i64 0, .int .i64 0, .int .i64 0, .int .i64 0, .int .i64 0, .int .i64 0, .int .i64 0, .bool false, .slice none 0 0, .bool false, .slice none 0 0, .slice none 0 0, .slice none 0 0, .slice none 0 0, .slice none 0 0] 87))) := ⟨b0, zz, n0, n1⟩
 have L1 := hq (fun (u : World) (hu : Below w.heap.size w u) => joined_one u.heap.size 62 (.slice xe.1 xe.2.1 xe.2.2) D.l (u.alloc (.cells #[.slice xe.1 xe.2.1 xe.2.2] 62)) (heap_alloc_new u _) ((p1.below hu).below (bel_nw _ _)) (by omega))
 have L2 : Hid (∀ u, Below w.heap.size w u → Calls Tryz.prog 109 #[.agg #[.bool l0, .slice y1.1 y1.2.1 y1.2.2, .slice y2.1 y2.2.1 y2.2.2, .slice y3.1 y3.2.1 y3.2.2, .slice y4.1 y4.2.1 y4.2.2, .slice y5.1 y5.2.1 y5.2.2]] u fun e w' => ∃ m' : MacV, e = .returned m'.val ∧ MacD n w' (fun g => u.heap.size ≤ g) m' D.T D.d ∧ Below u.heap.size u w') := fun u hu => copyOfMachine_any true n ⟨⟨l0, .slice y1.1 y1.2.1 y1.2.2, .slice y2.1 y2.2.1 y2.2.2, .slice y3.1 y3.2.1 y3.2.2, .slice y4.1 y4.2.1 y4.2.2⟩, .slice y5.1 y5.2.1 y5.2.2⟩ D.T D.d F u (s1.below hu) (p2.2.below hu) hs2 (fun e => by cases e) hs3
 clear p1 hs1 hs2 hs3 b0 n0 n1 zz s1
 clear p2
 show Calls Tryz.prog 84 #[.agg #[.int .i64 kd, .int .i64 fr, .int .i64 tt, .int .i64 te, .int .i64 ix, .int .i64 it, .int .i64 cm, .bool ok, .slice xe.1 xe.2.1 xe.2.2, .bool l0, .slice y1.1 y1.2.1 y1.2.2, .slice y2.1 y2.2.1 y2.2.2, .slice y3.1 y3.2.1 y3.2.2, .slice y4.1 y4.2.1 y4.2.2, .slice y5.1 y5.2.1 y5.2.2]] w _
 go_enter Tryz.func84, Tryz.ntmps84
 go_upto_region 1 with fail
 generalize ((w.alloc (.cells #[.int .i64 kd, .int .i64 fr, .int .i64 tt, .int .i64 te, .int .i64 ix, .int .i64 it, .int .i64 cm, .bool ok, .slice xe.1 xe.2.1 xe.2.2, .bool l0, .slice y1.1 y1.2.1 y1.2.2, .slice y2.1 y2.2.1 y2.2.2, .slice y3.1 y3.2.1 y3.2.2, .slice y4.1 y4.2.1 y4.2.2, .slice y5.1 y5.2.1 y5.2.2] 87)).alloc (.cells #[.int .i64 0, .int .i64 0, .int .i64 0, .int .i64 0, .int .i64 0, .int .i64 0, .int .i64 0, .bool false, .slice none 0 0, .bool false, .slice none 0 0, .slice none 0 0, .slice none 0 0, .slice none 0 0, .slice none 0 0] 87)) = V0 at *
 go_cut [] (fun wx => ∃ x0 : Option Addr × Nat × Nat, Hid (CRp w #[.int .i64 kd, .int .i64 fr, .int .i64 tt, .int .i64 te, .int .i64 ix, .int .i64 it, .int .i64 cm, .bool ok, .slice x0.1 x0.2.1 x0.2.2, .bool l0, .slice y1.1 y1.2.1 y1.2.2, .slice y2.1 y2.2.1 y2.2.2, .slice y3.1 y3.2.1 y3.2.2, .slice y4.1 y4.2.1 y4.2.2, .slice y5.1 y5.2.1 y5.2.2] wx) ∧ Hid (wx.ownsRow (w.heap.size + 2) 119 6 (.slice x0.1 x0.2.1 x0.2.2) D.l.length (flatE D.l)))
 case first =>
  as_aux_lemma =>
   have c0 := fun j => cell_of_cells (j := j) G.out.2.2.1
   have GA := hid9 (G.out.step (bel_nw V0 (.cells #[.slice xe.1 xe.2.1 xe.2.2] 62)))
   have ca := fun j => cell_of_cells (j := j) GA.out.2.2.1
   have CO := hid9 (L1.out V0 G.out.1)
   go_wp2_with fail
   refine CO.out.mono ?_
   rintro e w1 ⟨z, rfl, oz, bz⟩
   obtain ⟨x0, hz⟩ := (Row.of_owns oz).sl
   subst hz
   have Oz := hid9 (owns_mono (base' := w.heap.size + 2) oz GA.out.2.1)
   replace G := hid9 (GA.out.step bz)
   clear oz bz c0 ca GA CO
   have ff1 : ∀ j, w1.frozen? ⟨w.heap.size, j, none⟩ = false := fun j => frozen_of_cells G.out.2.2.1
   have dd0 : ∀ j, w1.cell? ⟨w.heap.size, j, none⟩ = (#[.int .i64 kd, .int .i64 fr, .int .i64 tt, .int .i64 te, .int .i64 ix, .int .i64 it, .int .i64 cm, .bool ok, .slice xe.1 xe.2.1 xe.2.2, .bool l0, .slice y1.1 y1.2.1 y1.2.2, .slice y2.1 y2.2.1 y2.2.2, .slice y3.1 y3.2.1 y3.2.2, .slice y4.1 y4.2.1 y4.2.2, .slice y5.1 y5.2.1 y5.2.2] : Array Value)[j]? := fun j => cell_of_cells G.out.2.2.1
   have GC := hid9 ((Chg.refl (fun g => g = w.heap.size) w1).setAt w.heap.size 8 rfl (.slice x0.1 x0.2.1 x0.2.2))
   have n2 : (w1.setCell ⟨w.heap.size, 8, none⟩ (.slice x0.1 x0.2.1 x0.2.2)).heap[w.heap.size]? = some (.cells #[.int .i64 kd, .int .i64 fr, .int .i64 tt, .int .i64 te, .int .i64 ix, .int .i64 it, .int .i64 cm, .bool ok, .slice x0.1 x0.2.1 x0.2.2, .bool l0, .slice y1.1 y1.2.1 y1.2.2, .slice y2.1 y2.2.1 y2.2.2, .slice y3.1 y3.2.1 y3.2.2, .slice y4.1 y4.2.1 y4.2.2, .slice y5.1 y5.2.1 y5.2.2] 87 (0, 0)) := heap_setCell_same w1 w.heap.size 8 _ _ _ G.out.2.2.1
   have G2 := hid9 (G.out.sets GC.out n2)
   clear n2
   go_wp2_with fail
   go_meet
   exact ⟨x0, G2.out, owns_but Oz.out GC.out (by omega)⟩
 case rest =>
  clear G L1
  obtain ⟨x0, G, O1⟩ := hcut
  go_upto_region 2 with fail
  go_cut [] (fun wx => ∃ (l1 : Bool) (x1 x2 x3 x4 x5 : Option Addr × Nat × Nat), Hid (CRp w #[.int .i64 kd, .int .i64 fr, .int .i64 tt, .int .i64 te, .int .i64 ix, .int .i64 it, .int .i64 cm, .bool ok, .slice x0.1 x0.2.1 x0.2.2, .bool l1, .slice x1.1 x1.2.1 x1.2.2, .slice x2.1 x2.2.1 x2.2.2, .slice x3.1 x3.2.1 x3.2.2, .slice x4.1 x4.2.1 x4.2.2, .slice x5.1 x5.2.1 x5.2.2] wx) ∧ Hid (wx.ownsRow (w.heap.size + 2) 119 6 (.slice x0.1 x0.2.1 x0.2.2) D.l.length (flatE D.l)) ∧ Hid (MacD n wx (fun g => w.heap.size + 2 ≤ g) ⟨⟨l1, .slice x1.1 x1.2.1 x1.2.2, .slice x2.1 x2.2.1 x2.2.2, .slice x3.1 x3.2.1 x3.2.2, .slice x4.1 x4.2.1 x4.2.2⟩, .slice x5.1 x5.2.1 x5.2.2⟩ D.T D.d))
  case first =>
   as_aux_lemma =>
    have c0 := fun j => cell_of_cells (j := j) G.out.2.2.1
    go_wp2_with fail
    refine (L2.out _ G.out.1).mono ?_
    rintro e w2 ⟨z, rfl, oz, bz⟩
    obtain ⟨l1, x1, x2, x3, x4, x5, hz⟩ := MacD.sl oz
    subst hz
    have Oz : Hid (MacD n w2 (fun g => w.heap.size + 2 ≤ g) ⟨⟨l1, .slice x1.1 x1.2.1 x1.2.2, .slice x2.1 x2.2.1 x2.2.2, .slice x3.1 x3.2.1 x3.2.2, .slice x4.1 x4.2.1 x4.2.2⟩, .slice x5.1 x5.2.1 x5.2.2⟩ D.T D.d) := MacD.monoF oz (fun g hg => Nat.le_trans G.out.2.1 hg)
    replace G := hid9 (G.out.step bz)
    replace O1 := hid9 (owns_below O1.out bz)
    clear oz bz c0
    have ff1 : ∀ j, w2.frozen? ⟨w.heap.size, j, none⟩ = false := fun j => frozen_of_cells G.out.2.2.1
    have dd0 : ∀ j, w2.cell? ⟨w.heap.size, j, none⟩ = (#[.int .i64 kd, .int .i64 fr, .int .i64 tt, .int .i64 te, .int .i64 ix, .int .i64 it, .int .i64 cm, .bool ok, .slice x0.1 x0.2.1 x0.2.2, .bool l0, .slice y1.1 y1.2.1 y1.2.2, .slice y2.1 y2.2.1 y2.2.2, .slice y3.1 y3.2.1 y3.2.2, .slice y4.1 y4.2.1 y4.2.2, .slice y5.1 y5.2.1 y5.2.2] : Array Value)[j]? := fun j => cell_of_cells G.out.2.2.1
    have GC := hid9 ((((((((Chg.refl (fun g => g = w.heap.size) w2).setAt w.heap.size 9 rfl (.bool l1)).setAt w.heap.size 10 rfl (.slice x1.1 x1.2.1 x1.2.2)).setAt w.heap.size 11 rfl (.slice x2.1 x2.2.1 x2.2.2)).setAt w.heap.size 12 rfl (.slice x3.1 x3.2.1 x3.2.2)).setAt w.heap.size 13 rfl (.slice x4.1 x4.2.1 x4.2.2)).setAt w.heap.size 14 rfl (.slice x5.1 x5.2.1 x5.2.2)))
    have n2 : ((((((w2.setCell ⟨w.heap.size, 9, none⟩ (.bool l1)).setCell ⟨w.heap.size, 10, none⟩ (.slice x1.1 x1.2.1 x1.2.2)).setCell ⟨w.heap.size, 11, none⟩ (.slice x2.1 x2.2.1 x2.2.2)).setCell ⟨w.heap.size, 12, none⟩ (.slice x3.1 x3.2.1 x3.2.2)).setCell ⟨w.heap.size, 13, none⟩ (.slice x4.1 x4.2.1 x4.2.2)).setCell ⟨w.heap.size, 14, none⟩ (.slice x5.1 x5.2.1 x5.2.2)).heap[w.heap.size]? = some (.cells #[.int .i64 kd, .int .i64 fr, .int .i64 tt, .int .i64 te, .int .i64 ix, .int .i64 it, .int .i64 cm, .bool ok, .slice x0.1 x0.2.1 x0.2.2, .bool l1, .slice x1.1 x1.2.1 x1.2.2, .slice x2.1 x2.2.1 x2.2.2, .slice x3.1 x3.2.1 x3.2.2, .slice x4.1 x4.2.1 x4.2.2, .slice x5.1 x5.2.1 x5.2.2] 87 (0, 0)) := heap_setCell_same _ w.heap.size 14 _ _ _ (heap_setCell_same _ w.heap.size 13 _ _ _ (heap_setCell_same _ w.heap.size 12 _ _ _ (heap_setCell_same _ w.heap.size 11 _ _ _ (heap_setCell_same _ w.heap.size 10 _ _ _ (heap_setCell_same _ w.heap.size 9 _ _ _ G.out.2.2.1)))))
    have G2 := hid9 (G.out.sets GC.out n2)
    clear n2
    go_wp2_with fail
    go_meet
    exact ⟨l1, x1, x2, x3, x4, x5, G2.out, owns_but O1.out GC.out (by omega), MacD.chg Oz.out GC.out (fun g hg e => by omega)⟩
  case rest =>
   clear G O1 L2
   obtain ⟨l1, x1, x2, x3, x4, x5, G, O1, O2⟩ := hcut
   obtain ⟨cs, hcs⟩ : ∃ cs : List Value, cs = [.int .i64 kd, .int .i64 fr, .int .i64 tt, .int .i64 te, .int .i64 ix, .int .i64 it, .int .i64 cm, .bool ok, .slice x0.1 x0.2.1 x0.2.2, .bool l1, .slice x1.1 x1.2.1 x1.2.2, .slice x2.1 x2.2.1 x2.2.2, .slice x3.1 x3.2.1 x3.2.2, .slice x4.1 x4.2.1 x4.2.2, .slice x5.1 x5.2.1 x5.2.2] := ⟨_, rfl⟩
   have RG : Hid (wc.rangeAt w.heap.size 0 cs) := by rw [hcs]; exact range_of G.out.2.2.1
   have TH : Hid (wc.there (w.heap.size + 1) 0 cs.toArray.size) := by rw [hcs]; exact there_of G.out.2.2.2 rfl
   have HI : Hid ((Tryz.prog.info? 87).map (·.size) = some cs.length) := by rw [hcs]; exact (show (Tryz.prog.info? 87).map (·.size) = some 15 by kernel_rfl)
   have ONE : Hid (cs.toArray.all (·.oneCell') = true) := by rw [hcs]; show _ = _; simp [Value.oneCell']
   have GC : Chg (fun g => g = w.heap.size + 1) wc (wc.setCells (w.heap.size + 1) 0 cs) := Chg.setCells (F := fun b => b = w.heap.size + 1) (g := w.heap.size + 1) (fun _ => rfl) cs 0 wc (Chg.refl _ _)
   have X1 : Hid ((wc.setCells (w.heap.size + 1) 0 cs).heap[w.heap.size + 1]? = some (.cells cs.toArray 87 (0, 0))) := setAll_at G.out.2.2.2 cs (by rw [hcs]; rfl)
   have B2 := hid9 (G.out.1.trans (GC.below (fun g _ hg => by omega) G.out.1.size))
   have FIN : Hid (∃ M : RpcV, Value.agg cs.toArray = M.val ∧ RpcV.like ⟨kd, fr, tt, te, ix, it, cm, ok, .slice xe.1 xe.2.1 xe.2.2, ⟨⟨l0, .slice y1.1 y1.2.1 y1.2.2, .slice y2.1 y2.2.1 y2.2.2, .slice y3.1 y3.2.1 y3.2.2, .slice y4.1 y4.2.1 y4.2.2⟩, .slice y5.1 y5.2.1 y5.2.2⟩⟩ M ∧ RpcDs n (wc.setCells (w.heap.size + 1) 0 cs) w.heap.size M D ∧ Below w.heap.size w (wc.setCells (w.heap.size + 1) 0 cs)) :=
    ⟨⟨kd, fr, tt, te, ix, it, cm, ok, .slice x0.1 x0.2.1 x0.2.2, ⟨⟨l1, .slice x1.1 x1.2.1 x1.2.2, .slice x2.1 x2.2.1 x2.2.2, .slice x3.1 x3.2.1 x3.2.2, .slice x4.1 x4.2.1 x4.2.2⟩, .slice x5.1 x5.2.1 x5.2.2⟩⟩, by rw [hcs], ⟨rfl, rfl, rfl, rfl, rfl, rfl, rfl, rfl⟩, ⟨owns_mono (base' := w.heap.size) (owns_but O1.out GC (by omega)) (by omega), MacD.monoF (G := fun g => w.heap.size ≤ g) (MacD.chg O2.out GC (fun g hg e => by omega)) (fun g hg => by omega)⟩, B2.out⟩
   clear hcs GC G B2 O1 O2
   go_wp2_with (first | (refine wpList_load_mid rfl 87 _ rfl w.heap.size 0 rfl cs _ RG.out Tryz.underlying87 rfl HI.out ?_) | (refine wpList_store_mid rfl 87 _ _ rfl (w.heap.size + 1) 0 cs.toArray rfl rfl TH.out HI.out ONE.out ?_))
   generalize wc.setCells (w.heap.size + 1) 0 cs = WF at *
   exact ⟨rfl, _, results_cell_row Tryz.results84 _ WF (w.heap.size + 1) 87 cs.toArray (0, 0) _ rfl X1.out Tryz.underlying87 rfl HI.out, (by obtain ⟨M, e, r⟩ := FIN.out; exact ⟨M, by rw [e], r⟩)⟩
end
section
open Go.RowKit

theorem Tryz.info117 : (Tryz.prog.info? 117).map (fun i => (i.zero, i.size, i.bytes)) = some (some (.agg #[.int .i64 0, .int .i64 0, .int .i64 0, .int .i64 0, .int .i64 0]), 5, 40) := by kernel_rfl
theorem Tryz.info121 : (Tryz.prog.info? 121).map (fun i => (i.zero, i.size, i.bytes)) = some (some (.agg #[.int .i64 0, .int .i64 0]), 2, 16) := by kernel_rfl
theorem cloneC_any (v : Value) (n : Nat) (xs : List Value) (w : World) (h : Row w v n xs) (hl : xs.length = n * 5) (h1 : ∀ y ∈ xs, y.oneCell' = true) (hn : n ≤ 8388608) :
  Calls Tryz.prog 80 #[v] w fun e w' => ∃ v', e = .returned v' ∧ OwnE w' w.heap.size 117 5 v' n xs ∧ Below w.heap.size w w' := by
 obtain ⟨a, q, hv, hq⟩ := h.len
 obtain ⟨i0, hi0, hz0, hz1, hz2⟩ := info_parts Tryz.info117
 have HR : Hid _ := room_row (n := n) (bytes := 40) hn (by decide)
 have RR : Hid (∀ u, Below w.heap.size w u → Row u v n xs) := fun u hu => h.below hu
 have HL : Hid (xs.length = n * 5) := hl
 have H1 : Hid _ := h1
 cases a with
 | none =>
  have hn0 : n = 0 := by
   obtain ⟨a, b, o, c, h3, h4, h5, h6, h7, h8⟩ := h
   rw [hv] at h3
   injection h3 with e1 e2 e3
   have := h8 e1.symm
   omega
  subst hn0
  have hx : xs = [] := List.length_eq_zero_iff.1 (by omega)
  subst hx hv
  clear h hl h1 RR H1 HL
  have hnil : ∀ W, (binOp .eql 33 (.slice none 0 q) (.slice none 0 0)).run Tryz.prog W = .ok (.bool true) W := fun W => Lib.run_eql_slice_nil_nil W _ _ Tryz.underlying33
  go_enter Tryz.func80, Tryz.ntmps80
  go_wp2
  go_ret
  exact ⟨_, rfl, OwnE.nil _ _ _ _, Below.refl _ _⟩
 | some p =>
  subst hv
  clear h hl h1
  have hnil : ∀ W, (binOp .eql 33 (.slice (some p) n q) (.slice none 0 0)).run Tryz.prog W = .ok (.bool false) W := fun W => Lib.run_eql_slice_some_nil W _ _ _ Tryz.underlying33
  go_enter Tryz.func80, Tryz.ntmps80
  go_wp2_with (at_builtin; refine list_appE (w.alloc (.cells #[] 117)) rfl _ _ 33 rfl w.heap.size 117 i0 _ 5 40 Tryz.underlying33 hi0 hz0 hz1 hz2 rfl (by decide) (.slice (some ⟨w.heap.size, 0, none⟩) 0 0) 0 [] rfl (OwnE.zero _ _ _ _ _) (.slice (some p) n q) n xs rfl (RR.out _ (al1 _ _)) HL.out H1.out HR.out.1 HR.out.2 (by simp) ?_)
  rintro v' w2 ⟨o1, o2, o3, o4⟩
  have B2 : Below w.heap.size w w2 := Below.trans (al1 _ _) o3
  clear o2 o3 o4
  go_wp2
  go_ret
  exact ⟨_, rfl, by simpa using o1, B2⟩

theorem cloneLd_any (v : Value) (n : Nat) (xs : List Value) (w : World) (h : Row w v n xs) (hl : xs.length = n * 2) (h1 : ∀ y ∈ xs, y.oneCell' = true) (hn : n ≤ 8388608) :
  Calls Tryz.prog 82 #[v] w fun e w' => ∃ v', e = .returned v' ∧ OwnE w' w.heap.size 121 2 v' n xs ∧ Below w.heap.size w w' := by
 obtain ⟨a, q, hv, hq⟩ := h.len
 obtain ⟨i0, hi0, hz0, hz1, hz2⟩ := info_parts Tryz.info121
 have HR : Hid _ := room_row (n := n) (bytes := 16) hn (by decide)
 have RR : Hid (∀ u, Below w.heap.size w u → Row u v n xs) := fun u hu => h.below hu
 have HL : Hid (xs.length = n * 2) := hl
 have H1 : Hid _ := h1
 cases a with
 | none =>
  have hn0 : n = 0 := by
   obtain ⟨a, b, o, c, h3, h4, h5, h6, h7, h8⟩ := h
   rw [hv] at h3
   injection h3 with e1 e2 e3
   have := h8 e1.symm
   omega
  subst hn0
  have hx : xs = [] := List.length_eq_zero_iff.1 (by omega)
  subst hx hv
  clear h hl h1 RR H1 HL
  have hnil : ∀ W, (binOp .eql 35 (.slice none 0 q) (.slice none 0 0)).run Tryz.prog W = .ok (.bool true) W := fun W => Lib.run_eql_slice_nil_nil W _ _ Tryz.underlying35
  go_enter Tryz.func82, Tryz.ntmps82
  go_wp2
  go_ret
  exact ⟨_, rfl, OwnE.nil _ _ _ _, Below.refl _ _⟩
 | some p =>
  subst hv
  clear h hl h1
  have hnil : ∀ W, (binOp .eql 35 (.slice (some p) n q) (.slice none 0 0)).run Tryz.prog W = .ok (.bool false) W := fun W => Lib.run_eql_slice_some_nil W _ _ _ Tryz.underlying35
  go_enter Tryz.func82, Tryz.ntmps82
  go_wp2_with (at_builtin; refine list_appE (w.alloc (.cells #[] 121)) rfl _ _ 35 rfl w.heap.size 121 i0 _ 2 16 Tryz.underlying35 hi0 hz0 hz1 hz2 rfl (by decide) (.slice (some ⟨w.heap.size, 0, none⟩) 0 0) 0 [] rfl (OwnE.zero _ _ _ _ _) (.slice (some p) n q) n xs rfl (RR.out _ (al1 _ _)) HL.out H1.out HR.out.1 HR.out.2 (by simp) ?_)
  rintro v' w2 ⟨o1, o2, o3, o4⟩
  have B2 : Below w.heap.size w w2 := Below.trans (al1 _ _) o3
  clear o2 o3 o4
  go_wp2
  go_ret
  exact ⟨_, rfl, by simpa using o1, B2⟩
end
section
open Go.RowKit

theorem builtSlice_one {P : Program} (e : TypeId) (ie : TypeInfo) (z : Value) (K : Nat) (hie : P.info? e = some ie) (hz : ie.zero = some z) (hsz : ie.size = K) (hK : 0 < K) (hs : K ≤ 16777216) (ks : List Value) (hl : ks.length = K) : P.builtSlice e 1 [(0, .agg ks.toArray)] = some ks.toArray := by
 unfold Program.builtSlice
 simp only [hie, hz]
 rw [if_neg (by rw [hsz]; omega), hsz]
 obtain ⟨r, h1, h2, h3⟩ := Great.fill_dense hK [.agg ks.toArray] 0 ((Array.range (1 * K)).map (z.cells[· % z.cells.size]!)) (by intro v hv; rw [List.mem_singleton.1 hv]; show ks.toArray.size = K; simpa using hl) (by simp)
 have e1 : [((0 : Nat), Value.agg ks.toArray)] = (([Value.agg ks.toArray].zipIdx 0).map fun x => (x.2, x.1)) := rfl
 rw [e1, h1]
 congr 1
 apply Array.ext_getElem?
 intro k
 rw [h3 k]
 by_cases hk : k < K
 ·rw [if_pos (by simp; exact hk), Nat.div_eq_of_lt hk, Nat.mod_eq_of_lt hk]
  rfl
 ·rw [if_neg (by simp; omega)]
  rw [Array.getElem?_eq_none (by simp; omega), Array.getElem?_eq_none (by simp; omega)]
end
section
open Go.RowKit

theorem l8Copy_any (b bt : Int) (v : Value) (l : EL) (w : World) (h : Row w v l.length (flatE l)) (hs : l.length ≤ 2097152) :
  Calls Tryz.prog 97 #[lgV b bt v] w fun e w' => ∃ v', e = .returned (lgV b bt v') ∧ OwnE w' w.heap.size 119 6 v' l.length (flatE l) ∧ Below w.heap.size w w' := by
 obtain ⟨i0, hi0, hz0, hz1, hz2⟩ := info_parts Tryz.info119
 obtain ⟨a, bb, off, cap, rfl, hcap, hmax, -⟩ := h.ents
 have N1 : Hid (MBox 64 ((w.alloc (.cells #[.int .i64 b, .int .i64 bt, .slice a l.length cap] 64)).alloc (.cells #[.int .i64 0, .int .i64 0, .slice none 0 0] 64)) w.heap.size #[.int .i64 b, .int .i64 bt, .slice a l.length cap]) := (MBox.start _ _ _).step (bel_nw _ _)
 have N2 : Hid (MBox 64 ((w.alloc (.cells #[.int .i64 b, .int .i64 bt, .slice a l.length cap] 64)).alloc (.cells #[.int .i64 0, .int .i64 0, .slice none 0 0] 64)) (w.heap.size + 1) #[.int .i64 0, .int .i64 0, .slice none 0 0]) := by
  have := MBox.start 64 (w.alloc (.cells #[.int .i64 b, .int .i64 bt, .slice a l.length cap] 64)) #[.int .i64 0, .int .i64 0, .slice none 0 0]
  rw [World.size_alloc] at this
  exact this
 have B2 : Hid (Below w.heap.size w ((w.alloc (.cells #[.int .i64 b, .int .i64 bt, .slice a l.length cap] 64)).alloc (.cells #[.int .i64 0, .int .i64 0, .slice none 0 0] 64))) := Below.and (bel_nw _ _) (bel_nw _ _)
 have zz : ((w.alloc (.cells #[.int .i64 b, .int .i64 bt, .slice a l.length cap] 64)).alloc (.cells #[.int .i64 0, .int .i64 0, .slice none 0 0] 64)).heap.size = w.heap.size + 2 := by simp
 have ZZ : Hid _ := zz
 have R1 : Hid _ := h
 have Z1 : Hid _ := room_rowE (n := l.length) (bytes := 48) (by omega) (by decide)
 clear h hcap hmax zz
 go_enter Tryz.func97, Tryz.ntmps97
 go_wp2_with fail
 generalize ((w.alloc (.cells #[.int .i64 b, .int .i64 bt, .slice a l.length cap] 64)).alloc (.cells #[.int .i64 0, .int .i64 0, .slice none 0 0] 64)) = W at *
 have KEEP : Hid (∀ u, Below W.heap.size W u → (fun u => u.cell? ⟨w.heap.size, 0, none⟩ = some (.int .i64 b) ∧ u.cell? ⟨w.heap.size, 1, none⟩ = some (.int .i64 bt) ∧ u.cell? ⟨w.heap.size, 2, none⟩ = some (.slice a l.length cap)) u) := fun u hu => by
  have k := (N1.out.step hu).cells
  exact ⟨k 0, k 1, k 2⟩
 have SL : Hid (Below W.heap.size W W.drew) := (Below.refl _ _).drew
 refine wp_region_held_drew (S := (fun u => u.cell? ⟨w.heap.size, 0, none⟩ = some (.int .i64 b) ∧ u.cell? ⟨w.heap.size, 1, none⟩ = some (.int .i64 bt) ∧ u.cell? ⟨w.heap.size, 2, none⟩ = some (.slice a l.length cap))) (by kernel_rfl) (KEEP.out _ SL.out) (fun hH => ?_)
 refine wpAnyH_take (i := 0) (oi := ⟨_, _, _, _, _, _⟩) (v := ?_) rfl (by kernel_rfl) (by kernel_rfl) (by kernel_rfl) (fun _ _ _ h => h) (Or.inl ⟨by rfl, ?_⟩) (by assumption) ?_
 rotate_left
 ·((intro w hSw; (try dsimp only at hSw); go_simp); (try with_reducible rfl))
 try simp only [Act.put, List.setIfInBounds_toArray, List.set_cons_zero, List.set_cons_succ]
 refine wpAnyH_take (i := 1) (oi := ⟨_, _, _, _, _, _⟩) (v := ?_) rfl (by kernel_rfl) (by kernel_rfl) (by kernel_rfl) (fun _ _ _ h => h) (Or.inl ⟨by rfl, ?_⟩) (by assumption) ?_
 rotate_left
 ·((intro w hSw; (try dsimp only at hSw); go_simp); (try with_reducible rfl))
 try simp only [Act.put, List.setIfInBounds_toArray, List.set_cons_zero, List.set_cons_succ]
 refine wpAnyH_take (i := 2) (oi := ⟨_, _, _, _, _, _⟩) (v := ?_) rfl (by kernel_rfl) (by kernel_rfl) (by kernel_rfl) (fun _ _ _ h => h) (Or.inl ⟨by rfl, ?_⟩) (by assumption) ?_
 rotate_left
 ·((intro w hSw; (try dsimp only at hSw); go_simp); (try with_reducible rfl))
 try simp only [Act.put, List.setIfInBounds_toArray, List.set_cons_zero, List.set_cons_succ]
 refine wpAnyH_take (i := 3) (oi := ⟨_, _, _, _, _, _⟩) (v := ?_) rfl (by kernel_rfl) (by kernel_rfl) (by kernel_rfl) (fun _ _ _ h => h) (Or.inl ⟨by rfl, ?_⟩) (by assumption) ?_
 rotate_left
 ·((intro w hSw; (try dsimp only at hSw); go_simp); (try with_reducible rfl))
 try simp only [Act.put, List.setIfInBounds_toArray, List.set_cons_zero, List.set_cons_succ]
 refine wpAnyH_take (i := 5) (oi := ⟨_, _, _, _, _, _⟩) (v := ?_) rfl (by kernel_rfl) (by kernel_rfl) (by kernel_rfl) (fun _ _ _ h => h) (Or.inl ⟨by rfl, ?_⟩) (by assumption) ?_
 rotate_left
 ·((intro w hSw; (try dsimp only at hSw); go_simp); (try with_reducible rfl))
 try simp only [Act.put, List.setIfInBounds_toArray, List.set_cons_zero, List.set_cons_succ]
 refine wpAnyH_take (i := 6) (oi := ⟨_, _, _, _, _, _⟩) (v := ?_) rfl (by kernel_rfl) (by kernel_rfl) (by kernel_rfl) (fun _ _ _ h => h) (Or.inl ⟨by rfl, ?_⟩) (by assumption) ?_
 rotate_left
 ·((intro w hSw; (try dsimp only at hSw); go_simp); (try with_reducible rfl))
 try simp only [Act.put, List.setIfInBounds_toArray, List.set_cons_zero, List.set_cons_succ]
 refine wpAnyH_ready (rs := [4]) (by kernel_rfl) (by simp) ?_
 refine AllReadyH.cons (o := ⟨_, _, _, _, _, _⟩) rfl (fun K hK => ?_) AllReadyH.nil
 go_simp
 have SL2 : Hid (Below W.heap.size W ((W.alloc (.cells #[] 119)).drew)) := (bel_nw _ _).drew
 refine hK.out _ _ (KEEP.out _ SL2.out) (fun hH2 => ?_)
 clear hK K hH
 have hH := hH2
 clear hH2
 try simp only [Act.put, List.setIfInBounds_toArray, List.set_cons_zero, List.set_cons_succ]
 generalize hW2 : (W.alloc (.cells #[] 119)).drew = W2 at *
 clear hW2
 refine wpAnyH_ready (rs := [7]) (by kernel_rfl) (by simp) ?_
 refine AllReadyH.cons (o := ⟨_, _, _, _, _, _⟩) rfl (fun K hK => ?_) AllReadyH.nil
 refine step_appE W2 rfl _ _ 62 rfl w.heap.size 119 i0 _ 6 48 Tryz.underlying62 hi0 hz0 hz1 hz2 rfl (by decide) (.slice (some ⟨W.heap.size, 0, none⟩) 0 0) 0 [] rfl (OwnE.zero _ _ _ _ _) (.slice a l.length cap) l.length (flatE l) rfl ((Row.below R1.out B2.out).below SL2.out) (flatE_length l) (flatE_one _) Z1.out.1 Z1.out.2 (Nat.le_trans B2.out.size SL2.out.size) ?_
 intro v' x AP
 have AE := AP.1
 rw [Nat.zero_add, List.nil_append] at AE
 have bx : Below W2.heap.size W2 x := AP.2.1.below (fun g _ h => absurd h (wrB_zero _ _)) (Nat.le_refl _)
 obtain ⟨a3, q3, hv3⟩ := AE.slice
 subst hv3
 have SL3 : Hid (Below W.heap.size W x) := Below.and SL2.out bx
 have AE3 : Hid (OwnE x w.heap.size 119 6 (.slice a3 l.length q3) l.length (flatE l)) := AE
 clear AP AE bx
 refine hK.out _ _ (KEEP.out _ SL3.out) (fun hH2 => ?_)
 clear hK K hH
 have hH := hH2
 clear hH2
 try simp only [Act.put, List.setIfInBounds_toArray, List.set_cons_zero, List.set_cons_succ]
 refine wpAnyH_take (i := 8) (oi := ⟨_, _, _, _, _, _⟩) (v := ?_) rfl (by kernel_rfl) (by kernel_rfl) (by kernel_rfl) (fun _ _ _ h => h) (Or.inl ⟨by rfl, ?_⟩) (by assumption) ?_
 rotate_left
 ·((intro w hSw; (try dsimp only at hSw); go_simp); (try with_reducible rfl))
 try simp only [Act.put, List.setIfInBounds_toArray, List.set_cons_zero, List.set_cons_succ]
 have M2 := N2.out.step SL3.out
 have m0 : x.cell? ⟨w.heap.size + 1, 0, none⟩ = some (.int .i64 0) := cell_of_cells M2
 have m1 : x.cell? ⟨w.heap.size + 1, 1, none⟩ = some (.int .i64 0) := cell_of_cells M2
 have m2 : x.cell? ⟨w.heap.size + 1, 2, none⟩ = some (.slice none 0 0) := cell_of_cells M2
 have f0 : ∀ j, x.frozen? ⟨w.heap.size + 1, j, none⟩ = false := fun j => frozen_of_cells M2
 have X := lg_all (.int .i64 b) (.int .i64 bt) (.slice a3 l.length q3) M2
 have ch := lg_all_chg x (w.heap.size + 1) (.int .i64 b) (.int .i64 bt) (.slice a3 l.length q3)
 have AE4 := OwnE.chg AE3.out ch (fun g hg => ownE_apart AE3.out M2 (by decide) hg)
 have K1 := (N1.out.step SL3.out)
 have K2 := row_chg K1 ch (by omega)
 have BB := (Below.and B2.out SL3.out)
 have BF := BB.trans (ch.below (fun g _ hg => by omega) BB.size)
 have FIN : Hid _ := And.intro X (And.intro AE4 BF)
 have KS : Hid _ := K2
 clear M2 X ch AE4 K1 K2 BB BF
 refine wpAnyH_ready (rs := [9]) (by kernel_rfl) (by simp) ?_
 refine AllReadyH.cons (o := ⟨_, _, _, _, _, _⟩) rfl (fun K hK => ?_) AllReadyH.nil
 go_simp
 refine hK.out _ _ (⟨cell_of_cells KS.out, cell_of_cells KS.out, cell_of_cells KS.out⟩) (fun hH2 => ?_)
 clear hK K hH
 have hH := hH2
 clear hH2
 try simp only [Act.put, List.setIfInBounds_toArray, List.set_cons_zero, List.set_cons_succ]
 refine wpAnyH_done (by kernel_rfl) ?_ _
 clear hH m0 m1 m2 f0
 go_wp2_with fail
 simp [bodyPost, results, Tryz.results97, go_sem, cell_of_cells FIN.out.1]
 exact FIN.out.2
end
end Go.Proofs.YtkcaelfkcepdkaaGreat
