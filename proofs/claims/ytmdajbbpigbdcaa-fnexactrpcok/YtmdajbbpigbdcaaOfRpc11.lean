/-
  toRpc: what is told, copied out of the law's own kind, owns its memory.
  The program's rpcKinds: a map of five structs of functions, and what is looked up in it.
  LastOf and Newer of both sides.
  What NodeOk tells, as a plain function; the model's NodeOk.
-/
import Derived.Test.YtmdajbbpigbdcaaOfRpc6
import Derived.Test.YtmdajbbpigbdcaaOfRpc10
import Derived.MapKept
import Derived.Carry
import Derived.Test.YtmdajbbpigbdcaaOfRpc9
namespace Go.Proofs.Ytmdajbbpigbdcaa
open Go.RowKit

theorem wpList_load_h {P : Program} {ops : Array Oper} {rest : List Oper} {op : Oper} {a : Act} {w : World} {Q : Exit → Act → World → Prop} (hw : Region.wanted op (yielded ops a.tmps) = true) (ty : TypeId) (x : Operand) (ho : op.op = .load ty x)
    (b o : Nat) (hx : a.eval x = .pointer (some ⟨b, o, none⟩)) (cs : List Value) (d : TypeDesc) (hc : w.rangeAt b o cs)
    (hu : P.underlying ty = some d) (hd : d.isRow = true) (hi : (P.info? ty).map (·.size) = some cs.length)
    (h : wpList P ops Q rest (a.put op.dst (.agg cs.toArray)) w) : wpList P ops Q (op :: rest) a w :=
  wpList_step fun _ hK => by rw [if_pos hw]; exact wp_load_mid ty x ho b o hx cs d hc hu hd hi (hK _ _ h)
/-- what is told, whose lists lie in memory from base on -/
def RpcOwn (n : Nat) (w : World) (base : Nat) (R : RpcV) (D : Rd) : Prop :=
  w.ownsRow base 82 6 R.ev D.l.length (flatE D.l) ∧ MacOwn n w base R.s D.T D.d
theorem RpcOwn.at {n : Nat} {w : World} {base : Nat} {R : RpcV} {D : Rd} (h : RpcOwn n w base R D) : RpcAt n w R D := ⟨Row.of_owns h.1, h.2.at⟩
/-- toRpc under way: the argument, the answer's place, what is made so far -/
def TR (w : World) (A C : Array Value) (u : World) : Prop := Below w.heap.size w u ∧ w.heap.size + 3 ≤ u.heap.size ∧ u.heap[w.heap.size]? = some (.cells A 52 (0, 0)) ∧ u.heap[w.heap.size + 1]? = some (.cells #[.int .i64 0, .int .i64 0, .int .i64 0, .int .i64 0, .int .i64 0, .int .i64 0, .int .i64 0, .bool false, .slice none 0 0, .bool false, .slice none 0 0, .slice none 0 0, .slice none 0 0, .slice none 0 0, .slice none 0 0] 56 (0, 0)) ∧ u.heap[w.heap.size + 1 + 1]? = some (.cells C 56 (0, 0))
theorem TR.step {w u u' : World} {A C : Array Value} (h : TR w A C u) (hb : Below u.heap.size u u') : TR w A C u' := ⟨Below.and h.1 hb, Nat.le_trans h.2.1 hb.size, step_at h.2.2.1 hb, step_at h.2.2.2.1 hb, step_at h.2.2.2.2 hb⟩
theorem TR.sets {w u u' : World} {A C C' : Array Value} (h : TR w A C u) (hc : Chg (fun g => g = w.heap.size + 1 + 1) u u') (h2 : u'.heap[w.heap.size + 1 + 1]? = some (.cells C' 56 (0, 0))) : TR w A C' u' :=
  ⟨h.1.trans (hc.below (fun g _ hg => by omega) h.1.size), Nat.le_trans h.2.1 hc.size, row_chg h.2.2.1 hc (by omega), row_chg h.2.2.2.1 hc (by omega), h2⟩

set_option maxRecDepth 100000 in
set_option maxHeartbeats 4000000 in
theorem toRpc_own (n : Nat) (N : RpcV) (D : Rd) (w : World) (h : RpcAt n w N D) (hs : D.small n) :
    Calls Try.prog 12 #[N.val] w fun e w' => ∃ M : RpcV, e = .returned M.val ∧ N.like M ∧ RpcOwn n w' w.heap.size M D ∧ Below w.heap.size w w' := by
  obtain ⟨kd, fr, tt, te, ix, it, cm, ok, ev, ⟨⟨sl, sp, sc, sk, sb⟩, sv⟩⟩ := N
  obtain ⟨p1, p2⟩ := h
  obtain ⟨hs1, hs2, hs3⟩ := hs
  have b0 : Below w.heap.size w (((w.alloc (.cells #[.int .i64 kd, .int .i64 fr, .int .i64 tt, .int .i64 te, .int .i64 ix, .int .i64 it, .int .i64 cm, .bool ok, ev, .bool sl, sp, sc, sk, sb, sv] 52)).alloc (.cells #[.int .i64 0, .int .i64 0, .int .i64 0, .int .i64 0, .int .i64 0, .int .i64 0, .int .i64 0, .bool false, .slice none 0 0, .bool false, .slice none 0 0, .slice none 0 0, .slice none 0 0, .slice none 0 0, .slice none 0 0] 56)).alloc (.cells #[.int .i64 kd, .int .i64 fr, .int .i64 tt, .int .i64 te, .int .i64 ix, .int .i64 it, .int .i64 cm, .bool ok, .slice none 0 0, .bool false, .slice none 0 0, .slice none 0 0, .slice none 0 0, .slice none 0 0, .slice none 0 0] 56)) := (((Below.refl _ _).alloc (Nat.le_refl _) _).alloc (by simp) _).alloc (by simp; omega) _
  have n0 := MBox.step (MBox.step (MBox.start 52 w #[.int .i64 kd, .int .i64 fr, .int .i64 tt, .int .i64 te, .int .i64 ix, .int .i64 it, .int .i64 cm, .bool ok, ev, .bool sl, sp, sc, sk, sb, sv]) (bel_nw _ (.cells #[.int .i64 0, .int .i64 0, .int .i64 0, .int .i64 0, .int .i64 0, .int .i64 0, .int .i64 0, .bool false, .slice none 0 0, .bool false, .slice none 0 0, .slice none 0 0, .slice none 0 0, .slice none 0 0, .slice none 0 0] 56))) (bel_nw _ (.cells #[.int .i64 kd, .int .i64 fr, .int .i64 tt, .int .i64 te, .int .i64 ix, .int .i64 it, .int .i64 cm, .bool ok, .slice none 0 0, .bool false, .slice none 0 0, .slice none 0 0, .slice none 0 0, .slice none 0 0, .slice none 0 0] 56))
  have n1 := MBox.step (MBox.start 56 (w.alloc (.cells #[.int .i64 kd, .int .i64 fr, .int .i64 tt, .int .i64 te, .int .i64 ix, .int .i64 it, .int .i64 cm, .bool ok, ev, .bool sl, sp, sc, sk, sb, sv] 52)) #[.int .i64 0, .int .i64 0, .int .i64 0, .int .i64 0, .int .i64 0, .int .i64 0, .int .i64 0, .bool false, .slice none 0 0, .bool false, .slice none 0 0, .slice none 0 0, .slice none 0 0, .slice none 0 0, .slice none 0 0]) (bel_nw _ (.cells #[.int .i64 kd, .int .i64 fr, .int .i64 tt, .int .i64 te, .int .i64 ix, .int .i64 it, .int .i64 cm, .bool ok, .slice none 0 0, .bool false, .slice none 0 0, .slice none 0 0, .slice none 0 0, .slice none 0 0, .slice none 0 0] 56))
  have n2 := MBox.start 56 ((w.alloc (.cells #[.int .i64 kd, .int .i64 fr, .int .i64 tt, .int .i64 te, .int .i64 ix, .int .i64 it, .int .i64 cm, .bool ok, ev, .bool sl, sp, sc, sk, sb, sv] 52)).alloc (.cells #[.int .i64 0, .int .i64 0, .int .i64 0, .int .i64 0, .int .i64 0, .int .i64 0, .int .i64 0, .bool false, .slice none 0 0, .bool false, .slice none 0 0, .slice none 0 0, .slice none 0 0, .slice none 0 0, .slice none 0 0] 56)) #[.int .i64 kd, .int .i64 fr, .int .i64 tt, .int .i64 te, .int .i64 ix, .int .i64 it, .int .i64 cm, .bool ok, .slice none 0 0, .bool false, .slice none 0 0, .slice none 0 0, .slice none 0 0, .slice none 0 0, .slice none 0 0]
  simp only [World.size_alloc] at n1 n2
  have zz : w.heap.size + 3 ≤ (((w.alloc (.cells #[.int .i64 kd, .int .i64 fr, .int .i64 tt, .int .i64 te, .int .i64 ix, .int .i64 it, .int .i64 cm, .bool ok, ev, .bool sl, sp, sc, sk, sb, sv] 52)).alloc (.cells #[.int .i64 0, .int .i64 0, .int .i64 0, .int .i64 0, .int .i64 0, .int .i64 0, .int .i64 0, .bool false, .slice none 0 0, .bool false, .slice none 0 0, .slice none 0 0, .slice none 0 0, .slice none 0 0, .slice none 0 0] 56)).alloc (.cells #[.int .i64 kd, .int .i64 fr, .int .i64 tt, .int .i64 te, .int .i64 ix, .int .i64 it, .int .i64 cm, .bool ok, .slice none 0 0, .bool false, .slice none 0 0, .slice none 0 0, .slice none 0 0, .slice none 0 0, .slice none 0 0] 56)).heap.size := by simp
  have c0 := n0.cells
  have G : Hid (TR w #[.int .i64 kd, .int .i64 fr, .int .i64 tt, .int .i64 te, .int .i64 ix, .int .i64 it, .int .i64 cm, .bool ok, ev, .bool sl, sp, sc, sk, sb, sv] #[.int .i64 kd, .int .i64 fr, .int .i64 tt, .int .i64 te, .int .i64 ix, .int .i64 it, .int .i64 cm, .bool ok, .slice none 0 0, .bool false, .slice none 0 0, .slice none 0 0, .slice none 0 0, .slice none 0 0, .slice none 0 0] (((w.alloc (.cells #[.int .i64 kd, .int .i64 fr, .int .i64 tt, .int .i64 te, .int .i64 ix, .int .i64 it, .int .i64 cm, .bool ok, ev, .bool sl, sp, sc, sk, sb, sv] 52)).alloc (.cells #[.int .i64 0, .int .i64 0, .int .i64 0, .int .i64 0, .int .i64 0, .int .i64 0, .int .i64 0, .bool false, .slice none 0 0, .bool false, .slice none 0 0, .slice none 0 0, .slice none 0 0, .slice none 0 0, .slice none 0 0] 56)).alloc (.cells #[.int .i64 kd, .int .i64 fr, .int .i64 tt, .int .i64 te, .int .i64 ix, .int .i64 it, .int .i64 cm, .bool ok, .slice none 0 0, .bool false, .slice none 0 0, .slice none 0 0, .slice none 0 0, .slice none 0 0, .slice none 0 0] 56))) := ⟨b0, zz, n0, n1, n2⟩
  have L1 : Hid (∀ u, Below w.heap.size w u → Calls Try.prog 39 #[ev] u fun e w' => ∃ v', e = .returned v' ∧ w'.ownsRow u.heap.size 82 6 v' D.l.length (flatE D.l) ∧ Below u.heap.size u w') := fun u hu => toEntryS_any ev D.l u (p1.below hu) hs1
  have L2 : Hid (∀ u, Below w.heap.size w u → Calls Try.prog 40 #[.agg #[.bool sl, sp, sc, sk, sb, sv]] u fun e w' => ∃ m' : MacV, e = .returned m'.val ∧ MacOwn n w' u.heap.size m' D.T D.d ∧ Below u.heap.size u w') := fun u hu => toMachine_own n ⟨⟨sl, sp, sc, sk, sb⟩, sv⟩ D.T D.d u (p2.below hu) hs2 hs3
  clear p1 p2 hs1 hs2 hs3 b0 n0 n1 n2 zz
  show Calls Try.prog 12 #[.agg #[.int .i64 kd, .int .i64 fr, .int .i64 tt, .int .i64 te, .int .i64 ix, .int .i64 it, .int .i64 cm, .bool ok, ev, .bool sl, sp, sc, sk, sb, sv]] w _
  go_enter Try.func12, Try.ntmps12
  go_upto_region 10 with fail
  generalize (((w.alloc (.cells #[.int .i64 kd, .int .i64 fr, .int .i64 tt, .int .i64 te, .int .i64 ix, .int .i64 it, .int .i64 cm, .bool ok, ev, .bool sl, sp, sc, sk, sb, sv] 52)).alloc (.cells #[.int .i64 0, .int .i64 0, .int .i64 0, .int .i64 0, .int .i64 0, .int .i64 0, .int .i64 0, .bool false, .slice none 0 0, .bool false, .slice none 0 0, .slice none 0 0, .slice none 0 0, .slice none 0 0, .slice none 0 0] 56)).alloc (.cells #[.int .i64 kd, .int .i64 fr, .int .i64 tt, .int .i64 te, .int .i64 ix, .int .i64 it, .int .i64 cm, .bool ok, .slice none 0 0, .bool false, .slice none 0 0, .slice none 0 0, .slice none 0 0, .slice none 0 0, .slice none 0 0] 56)) = W0 at *
  go_cut [] (fun wx => ∃ x0 : Option Addr × Nat × Nat, Hid (TR w #[.int .i64 kd, .int .i64 fr, .int .i64 tt, .int .i64 te, .int .i64 ix, .int .i64 it, .int .i64 cm, .bool ok, ev, .bool sl, sp, sc, sk, sb, sv] #[.int .i64 kd, .int .i64 fr, .int .i64 tt, .int .i64 te, .int .i64 ix, .int .i64 it, .int .i64 cm, .bool ok, .slice x0.1 x0.2.1 x0.2.2, .bool false, .slice none 0 0, .slice none 0 0, .slice none 0 0, .slice none 0 0, .slice none 0 0] wx) ∧ Hid (wx.ownsRow (w.heap.size + 3) 82 6 (.slice x0.1 x0.2.1 x0.2.2) D.l.length (flatE D.l)))
  case first =>
    as_aux_lemma =>
      go_wp2_with fail
      refine (L1.out _ G.out.1).mono ?_
      rintro e w1 ⟨z, rfl, oz, bz⟩
      obtain ⟨x0, hz⟩ := (Row.of_owns oz).sl
      subst hz
      have Oz := hid9 (owns_mono (base' := w.heap.size + 3) oz G.out.2.1)
      replace G := hid9 (G.out.step bz)
      clear oz bz c0
      have ff1 : ∀ j, w1.frozen? ⟨w.heap.size + 1 + 1, j, none⟩ = false := fun j => frozen_of_cells G.out.2.2.2.2
      have dd0 : ∀ j, w1.cell? ⟨w.heap.size + 1 + 1, j, none⟩ = (#[.int .i64 kd, .int .i64 fr, .int .i64 tt, .int .i64 te, .int .i64 ix, .int .i64 it, .int .i64 cm, .bool ok, .slice none 0 0, .bool false, .slice none 0 0, .slice none 0 0, .slice none 0 0, .slice none 0 0, .slice none 0 0] : Array Value)[j]? := fun j => cell_of_cells G.out.2.2.2.2
      have GC := hid9 ((Chg.refl (fun g => g = w.heap.size + 1 + 1) w1).setAt (w.heap.size + 1 + 1) 8 rfl (.slice x0.1 x0.2.1 x0.2.2))
      have n2 : (w1.setCell ⟨w.heap.size + 1 + 1, 8, none⟩ (.slice x0.1 x0.2.1 x0.2.2)).heap[w.heap.size + 1 + 1]? = some (.cells #[.int .i64 kd, .int .i64 fr, .int .i64 tt, .int .i64 te, .int .i64 ix, .int .i64 it, .int .i64 cm, .bool ok, .slice x0.1 x0.2.1 x0.2.2, .bool false, .slice none 0 0, .slice none 0 0, .slice none 0 0, .slice none 0 0, .slice none 0 0] 56 (0, 0)) := by simpa using (set_at 8 (.slice x0.1 x0.2.1 x0.2.2) G.out.2.2.2.2)
      have G2 := hid9 (G.out.sets GC.out n2)
      clear n2
      go_wp2_with fail
      go_meet
      exact ⟨x0, G2.out, owns_but Oz.out GC.out (by omega)⟩
  case rest =>
    clear G  c0
    obtain ⟨x0, G, O1⟩ := hcut
    go_upto_region 11 with fail
    go_cut [] (fun wx => ∃ (l1 : Bool) (x1 x2 x3 x4 x5 : Option Addr × Nat × Nat), Hid (TR w #[.int .i64 kd, .int .i64 fr, .int .i64 tt, .int .i64 te, .int .i64 ix, .int .i64 it, .int .i64 cm, .bool ok, ev, .bool sl, sp, sc, sk, sb, sv] #[.int .i64 kd, .int .i64 fr, .int .i64 tt, .int .i64 te, .int .i64 ix, .int .i64 it, .int .i64 cm, .bool ok, .slice x0.1 x0.2.1 x0.2.2, .bool l1, .slice x1.1 x1.2.1 x1.2.2, .slice x2.1 x2.2.1 x2.2.2, .slice x3.1 x3.2.1 x3.2.2, .slice x4.1 x4.2.1 x4.2.2, .slice x5.1 x5.2.1 x5.2.2] wx) ∧ Hid (wx.ownsRow (w.heap.size + 3) 82 6 (.slice x0.1 x0.2.1 x0.2.2) D.l.length (flatE D.l)) ∧ Hid (MacOwn n wx (w.heap.size + 3) ⟨⟨l1, .slice x1.1 x1.2.1 x1.2.2, .slice x2.1 x2.2.1 x2.2.2, .slice x3.1 x3.2.1 x3.2.2, .slice x4.1 x4.2.1 x4.2.2⟩, .slice x5.1 x5.2.1 x5.2.2⟩ D.T D.d))
    case first =>
      as_aux_lemma =>
        have c0 := fun j => cell_of_cells (j := j) G.out.2.2.1
        go_wp2_with fail
        refine (L2.out _ G.out.1).mono ?_
        rintro e w2 ⟨z, rfl, oz, bz⟩
        obtain ⟨l1, x1, x2, x3, x4, x5, hz⟩ := oz.at.sl
        subst hz
        have Oz := hid9 (oz.low (base' := w.heap.size + 3) G.out.2.1)
        replace G := hid9 (G.out.step bz)
        replace O1 := hid9 (owns_below O1.out bz)
        clear oz bz c0
        have ff1 : ∀ j, w2.frozen? ⟨w.heap.size + 1 + 1, j, none⟩ = false := fun j => frozen_of_cells G.out.2.2.2.2
        have dd0 : ∀ j, w2.cell? ⟨w.heap.size + 1 + 1, j, none⟩ = (#[.int .i64 kd, .int .i64 fr, .int .i64 tt, .int .i64 te, .int .i64 ix, .int .i64 it, .int .i64 cm, .bool ok, .slice x0.1 x0.2.1 x0.2.2, .bool false, .slice none 0 0, .slice none 0 0, .slice none 0 0, .slice none 0 0, .slice none 0 0] : Array Value)[j]? := fun j => cell_of_cells G.out.2.2.2.2
        have GC := hid9 (((((((Chg.refl (fun g => g = w.heap.size + 1 + 1) w2).setAt (w.heap.size + 1 + 1) 9 rfl (.bool l1)).setAt (w.heap.size + 1 + 1) 10 rfl (.slice x1.1 x1.2.1 x1.2.2)).setAt (w.heap.size + 1 + 1) 11 rfl (.slice x2.1 x2.2.1 x2.2.2)).setAt (w.heap.size + 1 + 1) 12 rfl (.slice x3.1 x3.2.1 x3.2.2)).setAt (w.heap.size + 1 + 1) 13 rfl (.slice x4.1 x4.2.1 x4.2.2)).setAt (w.heap.size + 1 + 1) 14 rfl (.slice x5.1 x5.2.1 x5.2.2))
        have n2 : ((((((w2.setCell ⟨w.heap.size + 1 + 1, 9, none⟩ (.bool l1)).setCell ⟨w.heap.size + 1 + 1, 10, none⟩ (.slice x1.1 x1.2.1 x1.2.2)).setCell ⟨w.heap.size + 1 + 1, 11, none⟩ (.slice x2.1 x2.2.1 x2.2.2)).setCell ⟨w.heap.size + 1 + 1, 12, none⟩ (.slice x3.1 x3.2.1 x3.2.2)).setCell ⟨w.heap.size + 1 + 1, 13, none⟩ (.slice x4.1 x4.2.1 x4.2.2)).setCell ⟨w.heap.size + 1 + 1, 14, none⟩ (.slice x5.1 x5.2.1 x5.2.2)).heap[w.heap.size + 1 + 1]? = some (.cells #[.int .i64 kd, .int .i64 fr, .int .i64 tt, .int .i64 te, .int .i64 ix, .int .i64 it, .int .i64 cm, .bool ok, .slice x0.1 x0.2.1 x0.2.2, .bool l1, .slice x1.1 x1.2.1 x1.2.2, .slice x2.1 x2.2.1 x2.2.2, .slice x3.1 x3.2.1 x3.2.2, .slice x4.1 x4.2.1 x4.2.2, .slice x5.1 x5.2.1 x5.2.2] 56 (0, 0)) := by simpa using (set_at 14 (.slice x5.1 x5.2.1 x5.2.2) (set_at 13 (.slice x4.1 x4.2.1 x4.2.2) (set_at 12 (.slice x3.1 x3.2.1 x3.2.2) (set_at 11 (.slice x2.1 x2.2.1 x2.2.2) (set_at 10 (.slice x1.1 x1.2.1 x1.2.2) (set_at 9 (.bool l1) G.out.2.2.2.2))))))
        have G2 := hid9 (G.out.sets GC.out n2)
        clear n2
        go_wp2_with fail
        go_meet
        exact ⟨l1, x1, x2, x3, x4, x5, G2.out, owns_but O1.out GC.out (by omega), Oz.out.but GC.out (by omega)⟩
    case rest =>
      clear G O1
      obtain ⟨l1, x1, x2, x3, x4, x5, G, O1, O2⟩ := hcut
      have RG : Hid (wc.rangeAt (w.heap.size + 1 + 1) 0 ([.int .i64 kd, .int .i64 fr, .int .i64 tt, .int .i64 te, .int .i64 ix, .int .i64 it, .int .i64 cm, .bool ok, .slice x0.1 x0.2.1 x0.2.2, .bool l1, .slice x1.1 x1.2.1 x1.2.2, .slice x2.1 x2.2.1 x2.2.2, .slice x3.1 x3.2.1 x3.2.2, .slice x4.1 x4.2.1 x4.2.2, .slice x5.1 x5.2.1 x5.2.2] : List Value)) := range_of G.out.2.2.2.2
      have TH : Hid (wc.there (w.heap.size + 1) 0 (List.toArray ([.int .i64 kd, .int .i64 fr, .int .i64 tt, .int .i64 te, .int .i64 ix, .int .i64 it, .int .i64 cm, .bool ok, .slice x0.1 x0.2.1 x0.2.2, .bool l1, .slice x1.1 x1.2.1 x1.2.2, .slice x2.1 x2.2.1 x2.2.2, .slice x3.1 x3.2.1 x3.2.2, .slice x4.1 x4.2.1 x4.2.2, .slice x5.1 x5.2.1 x5.2.2] : List Value)).size) := there_of G.out.2.2.2.1 rfl
      have HI : Hid ((Try.prog.info? 56).map (·.size) = some (List.length ([.int .i64 kd, .int .i64 fr, .int .i64 tt, .int .i64 te, .int .i64 ix, .int .i64 it, .int .i64 cm, .bool ok, .slice x0.1 x0.2.1 x0.2.2, .bool l1, .slice x1.1 x1.2.1 x1.2.2, .slice x2.1 x2.2.1 x2.2.2, .slice x3.1 x3.2.1 x3.2.2, .slice x4.1 x4.2.1 x4.2.2, .slice x5.1 x5.2.1 x5.2.2] : List Value))) := (show (Try.prog.info? 56).map (·.size) = some 15 by kernel_rfl)
      have HJ : Hid ((Try.prog.info? 56).map (·.size) = some (List.toArray ([.int .i64 kd, .int .i64 fr, .int .i64 tt, .int .i64 te, .int .i64 ix, .int .i64 it, .int .i64 cm, .bool ok, .slice x0.1 x0.2.1 x0.2.2, .bool l1, .slice x1.1 x1.2.1 x1.2.2, .slice x2.1 x2.2.1 x2.2.2, .slice x3.1 x3.2.1 x3.2.2, .slice x4.1 x4.2.1 x4.2.2, .slice x5.1 x5.2.1 x5.2.2] : List Value)).size) := (show (Try.prog.info? 56).map (·.size) = some 15 by kernel_rfl)
      have ONE : Hid ((List.toArray ([.int .i64 kd, .int .i64 fr, .int .i64 tt, .int .i64 te, .int .i64 ix, .int .i64 it, .int .i64 cm, .bool ok, .slice x0.1 x0.2.1 x0.2.2, .bool l1, .slice x1.1 x1.2.1 x1.2.2, .slice x2.1 x2.2.1 x2.2.2, .slice x3.1 x3.2.1 x3.2.2, .slice x4.1 x4.2.1 x4.2.2, .slice x5.1 x5.2.1 x5.2.2] : List Value)).all (·.oneCell') = true) := by show _ = _; simp [Value.oneCell']
      have GC : Hid (Chg (fun g => g = w.heap.size + 1) wc (wc.setCells (w.heap.size + 1) 0 ([.int .i64 kd, .int .i64 fr, .int .i64 tt, .int .i64 te, .int .i64 ix, .int .i64 it, .int .i64 cm, .bool ok, .slice x0.1 x0.2.1 x0.2.2, .bool l1, .slice x1.1 x1.2.1 x1.2.2, .slice x2.1 x2.2.1 x2.2.2, .slice x3.1 x3.2.1 x3.2.2, .slice x4.1 x4.2.1 x4.2.2, .slice x5.1 x5.2.1 x5.2.2] : List Value))) := Chg.setCells (F := fun g => g = w.heap.size + 1) (g := w.heap.size + 1) (fun _ => rfl) ([.int .i64 kd, .int .i64 fr, .int .i64 tt, .int .i64 te, .int .i64 ix, .int .i64 it, .int .i64 cm, .bool ok, .slice x0.1 x0.2.1 x0.2.2, .bool l1, .slice x1.1 x1.2.1 x1.2.2, .slice x2.1 x2.2.1 x2.2.2, .slice x3.1 x3.2.1 x3.2.2, .slice x4.1 x4.2.1 x4.2.2, .slice x5.1 x5.2.1 x5.2.2] : List Value) 0 wc (Chg.refl _ _)
      have X1 : Hid ((wc.setCells (w.heap.size + 1) 0 ([.int .i64 kd, .int .i64 fr, .int .i64 tt, .int .i64 te, .int .i64 ix, .int .i64 it, .int .i64 cm, .bool ok, .slice x0.1 x0.2.1 x0.2.2, .bool l1, .slice x1.1 x1.2.1 x1.2.2, .slice x2.1 x2.2.1 x2.2.2, .slice x3.1 x3.2.1 x3.2.2, .slice x4.1 x4.2.1 x4.2.2, .slice x5.1 x5.2.1 x5.2.2] : List Value)).heap[w.heap.size + 1]? = some (.cells (List.toArray ([.int .i64 kd, .int .i64 fr, .int .i64 tt, .int .i64 te, .int .i64 ix, .int .i64 it, .int .i64 cm, .bool ok, .slice x0.1 x0.2.1 x0.2.2, .bool l1, .slice x1.1 x1.2.1 x1.2.2, .slice x2.1 x2.2.1 x2.2.2, .slice x3.1 x3.2.1 x3.2.2, .slice x4.1 x4.2.1 x4.2.2, .slice x5.1 x5.2.1 x5.2.2] : List Value)) 56 (0, 0))) := setAll_at G.out.2.2.2.1 ([.int .i64 kd, .int .i64 fr, .int .i64 tt, .int .i64 te, .int .i64 ix, .int .i64 it, .int .i64 cm, .bool ok, .slice x0.1 x0.2.1 x0.2.2, .bool l1, .slice x1.1 x1.2.1 x1.2.2, .slice x2.1 x2.2.1 x2.2.2, .slice x3.1 x3.2.1 x3.2.2, .slice x4.1 x4.2.1 x4.2.2, .slice x5.1 x5.2.1 x5.2.2] : List Value) rfl
      have B2 := hid9 (G.out.1.trans (GC.out.below (fun g _ hg => by omega) G.out.1.size))
      have MV : Hid (Value.agg (List.toArray ([.int .i64 kd, .int .i64 fr, .int .i64 tt, .int .i64 te, .int .i64 ix, .int .i64 it, .int .i64 cm, .bool ok, .slice x0.1 x0.2.1 x0.2.2, .bool l1, .slice x1.1 x1.2.1 x1.2.2, .slice x2.1 x2.2.1 x2.2.2, .slice x3.1 x3.2.1 x3.2.2, .slice x4.1 x4.2.1 x4.2.2, .slice x5.1 x5.2.1 x5.2.2] : List Value)) = RpcV.val ⟨kd, fr, tt, te, ix, it, cm, ok, .slice x0.1 x0.2.1 x0.2.2, ⟨⟨l1, .slice x1.1 x1.2.1 x1.2.2, .slice x2.1 x2.2.1 x2.2.2, .slice x3.1 x3.2.1 x3.2.2, .slice x4.1 x4.2.1 x4.2.2⟩, .slice x5.1 x5.2.1 x5.2.2⟩⟩) := by show _ = _; rfl
      replace O1 := hid9 (owns_mono (base' := w.heap.size) (owns_but O1.out GC.out (by omega)) (by omega))
      replace O2 := hid9 ((O2.out.but GC.out (by omega)).low (base' := w.heap.size) (by omega))
      have FIN : Hid (∃ M : RpcV, Value.agg (List.toArray ([.int .i64 kd, .int .i64 fr, .int .i64 tt, .int .i64 te, .int .i64 ix, .int .i64 it, .int .i64 cm, .bool ok, .slice x0.1 x0.2.1 x0.2.2, .bool l1, .slice x1.1 x1.2.1 x1.2.2, .slice x2.1 x2.2.1 x2.2.2, .slice x3.1 x3.2.1 x3.2.2, .slice x4.1 x4.2.1 x4.2.2, .slice x5.1 x5.2.1 x5.2.2] : List Value)) = M.val ∧ RpcV.like ⟨kd, fr, tt, te, ix, it, cm, ok, ev, ⟨⟨sl, sp, sc, sk, sb⟩, sv⟩⟩ M ∧ RpcOwn n (wc.setCells (w.heap.size + 1) 0 ([.int .i64 kd, .int .i64 fr, .int .i64 tt, .int .i64 te, .int .i64 ix, .int .i64 it, .int .i64 cm, .bool ok, .slice x0.1 x0.2.1 x0.2.2, .bool l1, .slice x1.1 x1.2.1 x1.2.2, .slice x2.1 x2.2.1 x2.2.2, .slice x3.1 x3.2.1 x3.2.2, .slice x4.1 x4.2.1 x4.2.2, .slice x5.1 x5.2.1 x5.2.2] : List Value)) w.heap.size M D ∧ Below w.heap.size w (wc.setCells (w.heap.size + 1) 0 ([.int .i64 kd, .int .i64 fr, .int .i64 tt, .int .i64 te, .int .i64 ix, .int .i64 it, .int .i64 cm, .bool ok, .slice x0.1 x0.2.1 x0.2.2, .bool l1, .slice x1.1 x1.2.1 x1.2.2, .slice x2.1 x2.2.1 x2.2.2, .slice x3.1 x3.2.1 x3.2.2, .slice x4.1 x4.2.1 x4.2.2, .slice x5.1 x5.2.1 x5.2.2] : List Value))) := ⟨_, MV.out, ⟨rfl, rfl, rfl, rfl, rfl, rfl, rfl, rfl⟩, ⟨O1.out, O2.out⟩, B2.out⟩
      clear GC G B2 MV O1 O2
      generalize ([.int .i64 kd, .int .i64 fr, .int .i64 tt, .int .i64 te, .int .i64 ix, .int .i64 it, .int .i64 cm, .bool ok, .slice x0.1 x0.2.1 x0.2.2, .bool l1, .slice x1.1 x1.2.1 x1.2.2, .slice x2.1 x2.2.1 x2.2.2, .slice x3.1 x3.2.1 x3.2.2, .slice x4.1 x4.2.1 x4.2.2, .slice x5.1 x5.2.1 x5.2.2] : List Value) = cs at *
      go_wp2_with (first | (refine wpList_load_mid rfl 56 _ rfl (w.heap.size + 1 + 1) 0 rfl cs _ RG.out Try.underlying56 rfl HI.out ?_) | (refine wpList_store_mid rfl 56 _ _ rfl (w.heap.size + 1) 0 cs.toArray rfl rfl TH.out HJ.out ONE.out ?_))
      generalize wc.setCells (w.heap.size + 1) 0 cs = WF at *
      exact ⟨rfl, _, results_cell_row Try.results12 _ WF (w.heap.size + 1) 56 cs.toArray (0, 0) _ rfl X1.out Try.underlying56 rfl HJ.out, (by obtain ⟨M, e, r⟩ := FIN.out; exact ⟨M, by rw [e], r⟩)⟩

end Go.Proofs.Ytmdajbbpigbdcaa

namespace Go.Proofs.Ytmdajbbpigbdcaa
open Go.RowKit

theorem Try.uRK : Try.prog.underlying 91 = some (.map 3 89) := by kernel_rfl
abbrev kdV (f g : Nat) : Value := .agg #[.func (.func f) #[] #[], .func (.func g) #[] #[]]
abbrev kdE (k : Int) (f g c : Nat) : MapEntry := ⟨.int .i64 k, kdV f g, c⟩
def kinds5 : Array MapEntry := #[kdE 1 67 68 0, kdE 2 69 68 1, kdE 3 70 68 2, kdE 4 69 68 3, kdE 5 71 72 4]
def putM (W : World) (b : Nat) (o : Obj) : World := { W with heap := W.heap.setIfInBounds b o }
theorem putM_at {W : World} {b : Nat} {o p : Obj} (h : W.heap[b]? = some p) : (putM W b o).heap[b]? = some o := by
  have hb := (Array.getElem?_eq_some_iff.1 h).1
  simp [putM, hb]
theorem putM_size (W : World) (b : Nat) (o : Obj) : (putM W b o).heap.size = W.heap.size := by simp [putM]
theorem putM_ne {W : World} {b g : Nat} {o : Obj} (h : g ≠ b) : (putM W b o).heap[g]? = W.heap[g]? := by
  simp [putM, Ne.symm h]
theorem checkKey_int (e : Bool) (k : Int) (w : World) : (Instr.checkKey e 10000 3 (.int .i64 k)).run Try.prog w = .ok () w := by
  unfold Instr.checkKey
  rw [Sem.run_bind, run_underlying Try.underlying3]
  simp
theorem findKey_int (k : Int) (es : List MapEntry) (r : Option (Nat × Value)) (h : Instr.findNow (.int .i64) (.int .i64 k) es 0 = some r) (w : World) : (Instr.findKey 3 (.int .i64 k) es).run Try.prog w = .ok r w := by
  unfold Instr.findKey
  rw [Sem.run_bind, run_underlying Try.underlying3]
  simp [h]
theorem upd_new {W : World} {b : Nat} {es : Array MapEntry} {c : Nat} (k : Int) (v : Value) (hb : W.heap[b]? = some (.map es c)) (hf : Instr.findNow (.int .i64) (.int .i64 k) es.toList 0 = some none) :
    (Instr.mapUpdate 91 (.map (some b)) (.int .i64 k) v).run Try.prog W = .ok () (putM W b (.map (es.push ⟨.int .i64 k, v, c⟩) (c + 1))) := by
  simp [Instr.mapUpdate, run_underlying Try.uRK, MapKept.run_getObj_map hb, checkKey_int, findKey_int k _ _ hf, MapKept.run_setObj_map _ hb, putM]
/-- THE MAP OF THE KINDS, MADE. -/
theorem kinds_made (w : World) : ∃ w1 w2 w3 w4 w5 : World,
    (Instr.mapUpdate 91 (.map (some w.heap.size)) (.int .i64 1) (kdV 67 68)).run Try.prog (w.alloc (.map #[] 0)) = .ok () w1 ∧
    (Instr.mapUpdate 91 (.map (some w.heap.size)) (.int .i64 2) (kdV 69 68)).run Try.prog w1 = .ok () w2 ∧
    (Instr.mapUpdate 91 (.map (some w.heap.size)) (.int .i64 3) (kdV 70 68)).run Try.prog w2 = .ok () w3 ∧
    (Instr.mapUpdate 91 (.map (some w.heap.size)) (.int .i64 4) (kdV 69 68)).run Try.prog w3 = .ok () w4 ∧
    (Instr.mapUpdate 91 (.map (some w.heap.size)) (.int .i64 5) (kdV 71 72)).run Try.prog w4 = .ok () w5 ∧
    w5.heap[w.heap.size]? = some (.map kinds5 5) ∧ Below w.heap.size w w5 := by
  have h0 : (w.alloc (.map #[] 0)).heap[w.heap.size]? = some (.map #[] 0) := heap_alloc_new w _
  have h1 := putM_at (o := .map (#[].push (kdE 1 67 68 0)) 1) h0
  have h2 := putM_at (o := .map ((#[].push (kdE 1 67 68 0)).push (kdE 2 69 68 1)) 2) h1
  have h3 := putM_at (o := .map (((#[].push (kdE 1 67 68 0)).push (kdE 2 69 68 1)).push (kdE 3 70 68 2)) 3) h2
  have h4 := putM_at (o := .map ((((#[].push (kdE 1 67 68 0)).push (kdE 2 69 68 1)).push (kdE 3 70 68 2)).push (kdE 4 69 68 3)) 4) h3
  have h5 := putM_at (o := .map (((((#[].push (kdE 1 67 68 0)).push (kdE 2 69 68 1)).push (kdE 3 70 68 2)).push (kdE 4 69 68 3)).push (kdE 5 71 72 4)) 5) h4
  refine ⟨_, _, _, _, _, upd_new 1 _ h0 rfl, upd_new 2 _ h1 rfl, upd_new 3 _ h2 rfl, upd_new 4 _ h3 rfl, upd_new 5 _ h4 rfl, h5, ?_⟩
  have hb : ∀ (W : World) (o : Obj), Below w.heap.size w W → Below w.heap.size w (putM W w.heap.size o) := fun W o h => ⟨h.os, h.tape, h.output, by rw [putM_size]; exact h.size, fun g hg => (putM_ne (by omega)).trans (h.block g hg)⟩
  exact hb _ _ (hb _ _ (hb _ _ (hb _ _ (hb _ _ (bel_nw w _)))))

set_option maxRecDepth 100000 in
set_option maxHeartbeats 1000000 in
theorem rpcKinds_any (w : World) : Calls Try.prog 41 #[] w fun e w' => e = .returned (.map (some w.heap.size)) ∧ w'.heap[w.heap.size]? = some (.map kinds5 5) ∧ Below w.heap.size w w' := by
  obtain ⟨w1, w2, w3, w4, w5, h1, h2, h3, h4, h5, h6, h7⟩ := kinds_made w
  have hmk : ∀ W : World, (Instr.makeMap 91 none).run Try.prog W = .ok (.map (some W.heap.size)) (W.alloc (.map #[] 0)) := fun _ => rfl
  have H := hid9 (And.intro h6 h7)
  clear h6 h7
  go_enter Try.func41, Try.ntmps41
  go_wp2
  go_ret
  exact ⟨rfl, H.out.1, H.out.2⟩

/-- what stands in the map at a Kind -/
def kindF (k : Int) : Value := if k = 1 then kdV 67 68 else if k = 2 then kdV 69 68 else if k = 3 then kdV 70 68 else if k = 4 then kdV 69 68 else if k = 5 then kdV 71 72 else .agg #[.nilFunc, .nilFunc]
theorem look_kind {W : World} {b : Nat} (hb : W.heap[b]? = some (.map kinds5 5)) (k : Int) : (Instr.lookup 91 (.map (some b)) (.int .i64 k) true).run Try.prog W = .ok (.tuple #[kindF k, .bool (inB k 1 5)]) W := by
  have hz : (zeroValue 89).run Try.prog W = .ok (.agg #[.nilFunc, .nilFunc]) W := by kernel_rfl
  have look : ∀ r, Instr.findNow (.int .i64) (.int .i64 k) kinds5.toList 0 = some r → (Instr.findKey 3 (.int .i64 k) kinds5.toList).run Try.prog W = .ok r W := fun r h => findKey_int k _ r h W
  by_cases h1 : k = 1
  · subst h1; simp [Instr.lookup, run_underlying Try.uRK, MapKept.run_getObj_map hb, checkKey_int, look _ rfl, kindF, inB]
  by_cases h2 : k = 2
  · subst h2; simp [Instr.lookup, run_underlying Try.uRK, MapKept.run_getObj_map hb, checkKey_int, look _ rfl, kindF, inB]
  by_cases h3 : k = 3
  · subst h3; simp [Instr.lookup, run_underlying Try.uRK, MapKept.run_getObj_map hb, checkKey_int, look _ rfl, kindF, inB]
  by_cases h4 : k = 4
  · subst h4; simp [Instr.lookup, run_underlying Try.uRK, MapKept.run_getObj_map hb, checkKey_int, look _ rfl, kindF, inB]
  by_cases h5 : k = 5
  · subst h5; simp [Instr.lookup, run_underlying Try.uRK, MapKept.run_getObj_map hb, checkKey_int, look _ rfl, kindF, inB]
  have hn : Instr.findNow (.int .i64) (.int .i64 k) kinds5.toList 0 = some none := by
    have g1 : (k == 1) = false := beq_eq_false_iff_ne.2 h1
    have g2 : (k == 2) = false := beq_eq_false_iff_ne.2 h2
    have g3 : (k == 3) = false := beq_eq_false_iff_ne.2 h3
    have g4 : (k == 4) = false := beq_eq_false_iff_ne.2 h4
    have g5 : (k == 5) = false := beq_eq_false_iff_ne.2 h5
    simp [kinds5, Instr.findNow, Instr.sameNow, g1, g2, g3, g4, g5]
  have hi : inB k 1 5 = false := by unfold inB; simp; omega
  simp [Instr.lookup, run_underlying Try.uRK, MapKept.run_getObj_map hb, checkKey_int, look _ hn, kindF, hz, h1, h2, h3, h4, h5, hi]

end Go.Proofs.Ytmdajbbpigbdcaa

namespace Go.Proofs.Ytmdajbbpigbdcaa
open Go.RowKit

/-- the number of the last entry -/
def lastN (b : Int) (l : EL) : Int := if l.length = 0 then b else wrap64 (b + l.length)
/-- what LastOf tells -/
abbrev lastV (b bt : Int) (l : EL) : Value := .tuple #[.int .i64 (lastN b l), .int .i64 (prevT bt l l.length)]
/-- what Newer tells -/
def newerB (b bt : Int) (l : EL) (la lt : Int) : Bool := decide (lt > prevT bt l l.length ∨ (lt = prevT bt l l.length ∧ la ≥ lastN b l))

end Go.Proofs.Ytmdajbbpigbdcaa

namespace Go.Proofs.Ytmdajbbpigbdcaa
open Go.RowKit

def allIn (l : List Int) (lo hi : Int) : Bool := (List.range l.length).all fun i => inB (iAt l i) lo hi
/-- what NodeOk tells by what its parts tell -/
def nodeP (id te vo ro cm lb size : Int) (lo m1 m2 : Bool) (pt la : Int) (nB nN nM : Nat) (ax am : Bool) : Bool :=
  inB size 1 5 && (inB id 0 (size - 1) && (inB te 0 100000 && (inB vo (-1) (size - 1) && (lo && (m1 && (m2 && (inB ro 0 2 && (decide (pt ≤ te) && (decide ((nB : Int) = size) && (decide ((nN : Int) = size) && (decide ((nM : Int) = size) && (inB cm lb la && (ax && am)))))))))))))
def nodeOkB (N : NodV) (D : Nd) (size : Int) : Bool :=
  nodeP N.id N.te N.vo N.ro N.cm N.lb size (logOkB N.lb N.lt D.l) (machOk D.T1 D.d1) (machOk D.T2 D.d2) (prevT N.lt D.l D.l.length) (lastN N.lb D.l) D.vs.length D.nx.length D.mt.length (allIn D.nx 1 (lastN N.lb D.l + 1)) (allIn D.mt 0 (lastN N.lb D.l))
end Go.Proofs.Ytmdajbbpigbdcaa
