/-
  The model's DiskNew: a disk of its own, or none.
-/
import Derived.Test.YtekcnibohikmdaaOfWrites37
import Derived.Test.YtekcnibohikmdaaOfWrites11
import Derived.Test.YtekcnibohikmdaaOfWrites12
namespace Go.Proofs.Ytekcnibohikmdaa
set_option maxRecDepth 100000
set_option maxHeartbeats 8000000
section
open Go.RowKit

theorem al5 (w : World) (a b c d e : Obj) : Below w.heap.size w ((((((w.alloc a).alloc b).alloc c).alloc d).alloc e).drew) ∧ ((((((w.alloc a).alloc b).alloc c).alloc d).alloc e).drew).heap[w.heap.size]? = some a ∧ ((((((w.alloc a).alloc b).alloc c).alloc d).alloc e).drew).heap[w.heap.size + 1]? = some b ∧
  ((((((w.alloc a).alloc b).alloc c).alloc d).alloc e).drew).heap[w.heap.size + 1 + 1]? = some c ∧ ((((((w.alloc a).alloc b).alloc c).alloc d).alloc e).drew).heap[w.heap.size + 1 + 1 + 1]? = some d ∧ ((((((w.alloc a).alloc b).alloc c).alloc d).alloc e).drew).heap[w.heap.size + 1 + 1 + 1 + 1]? = some e := by
 have ba := bel_al (w := w) (Below.refl _ _) a
 have bb := bel_al (w := w.alloc a) (Below.refl _ _) b
 have bc := bel_al (w := (w.alloc a).alloc b) (Below.refl _ _) c
 have bd := bel_al (w := ((w.alloc a).alloc b).alloc c) (Below.refl _ _) d
 have be := bel_al (w := (((w.alloc a).alloc b).alloc c).alloc d) (Below.refl _ _) e
 have na := heap_alloc_new w a
 have nb := heap_alloc_new (w.alloc a) b
 have nc := heap_alloc_new ((w.alloc a).alloc b) c
 have nd := heap_alloc_new (((w.alloc a).alloc b).alloc c) d
 have ne := heap_alloc_new ((((w.alloc a).alloc b).alloc c).alloc d) e
 have s1 := al_size w a
 have s2 := al_size (w.alloc a) b
 have s3 := al_size ((w.alloc a).alloc b) c
 have s4 := al_size (((w.alloc a).alloc b).alloc c) d
 rw [s1] at s2 nb
 rw [s2] at s3 nc
 rw [s3] at s4 nd
 rw [s4] at ne
 refine ⟨Below.drew (Below.and (Below.and (Below.and (Below.and ba bb) bc) bd) be), ?_, ?_, ?_, ?_, ne⟩
 ·exact (be.block _ (by omega)).trans ((bd.block _ (by omega)).trans ((bc.block _ (by omega)).trans ((bb.block _ (by omega)).trans na)))
 ·exact (be.block _ (by omega)).trans ((bd.block _ (by omega)).trans ((bc.block _ (by omega)).trans nb))
 ·exact (be.block _ (by omega)).trans ((bd.block _ (by omega)).trans nc)
 ·exact (be.block _ (by omega)).trans nd
structure DkG (w : World) (cs : Array Value) (D s1 s2 : Nat) (u : World) : Prop where
 b : Below w.heap.size w u
 t : u.heap[w.heap.size]? = some (.cells cs 54)
 r : u.heap[w.heap.size + 1]? = some (.cells #[.slice none 0 0, .slice none 0 0] 27)
 d : u.heap[D]? = some (.cells #[.slice (some ⟨s1, 0, none⟩) 200 200, .slice (some ⟨s2, 0, none⟩) 2 2] 27)
 p : u.heap[s1]? = some (.cells (madeCells #[.string ⟨#[]⟩] 200) 9)
 s : u.heap[s2]? = some (.cells #[.int .i64 0, .int .i64 0, .int .i64 0, .int .i64 0] 33)
 l : w.heap.size + 1 < D ∧ w.heap.size ≤ s1 ∧ w.heap.size ≤ s2
theorem DkG.low {w : World} {cs : Array Value} {D s1 s2 : Nat} {u u' : World} (h : DkG w cs D s1 s2 u) (hb : Below u.heap.size u u') : DkG w cs D s1 s2 u' := by
 have k := fun (g : Nat) (o : Obj) (h : u.heap[g]? = some o) => row_chg h (Chg.of_below (F := fun _ => False) hb) id
 exact ⟨h.b.trans (hb.mono h.b.size), k _ _ h.t, k _ _ h.r, k _ _ h.d, k _ _ h.p, k _ _ h.s, h.l⟩
theorem own_lit {u : World} {base e g size n : Nat} {cs : Array Value} (h : u.heap[g]? = some (.cells cs e)) (hb : base ≤ g) (hn : n ≤ 1000) (hs : cs.size = n * size) : u.ownsRow base e size (.slice (some ⟨g, 0, none⟩) n n) n cs.toList :=
 ⟨by simpa using hs, .inr ⟨g, n, cs, rfl, hb, h, Nat.le_refl _, by unfold maxLen; omega, hs, List.take_of_length_le (by rw [Array.length_toList, hs]; exact Nat.le_refl _)⟩⟩
abbrev noPages : PgL := List.replicate 200 ⟨#[]⟩
theorem DkG.rows {w : World} {cs : Array Value} {D s1 s2 : Nat} {u : World} (h : DkG w cs D s1 s2 u) : Row u (.slice (some ⟨s1, 0, none⟩) 200 200) noPages.length (flatS noPages) ∧ Row u (.slice (some ⟨s2, 0, none⟩) 2 2) [((0 : Int), (0 : Int)), (0, 0)].length (flatP [(0, 0), (0, 0)]) := by
 have h1 := own_lit (size := 1) (n := 200) h.p h.l.2.1 (by decide) (by simp [madeCells])
 have h2 := own_lit (size := 2) (n := 2) h.s h.l.2.2 (by decide) rfl
 rw [madeCells_all _ (.string ⟨#[]⟩) (by decide) (fun i hi => by match i, hi with | 0, _ => rfl)] at h1
 refine ⟨?_, Row.of_owns h2⟩
 have l : noPages.length = 200 := by simp
 have e : flatS noPages = List.replicate 200 (.string ⟨#[]⟩) := by simp [flatS]
 rw [l, e]
 exact Row.of_owns h1

theorem DiskE.mono {w : World} {base base' : Nat} {v : Value} {P : PgL} {S : SL} (h : DiskE w base v P S) (hb : base' ≤ base) : DiskE w base' v P S := by
 obtain ⟨vp, vs, e, h1, h2⟩ := h
 exact ⟨vp, vs, e, h1.mono hb, h2.mono hb⟩

theorem specDiskNew_any (x : TV) (T : Tr) (w : World) (ht : TreeAt 8 w x T) (hsz : sizeT 8 T ≤ 1099511627776) :
  Calls Try.prog 39 #[x.val] w fun e w' => ∃ (v : Value) (P : PgL) (S : SL) (ok : Bool), e = .returned (.tuple #[v, .bool ok]) ∧ PageOk P ∧ (P.length = 200 ∧ S.length = 2 ∨ P.length = 0 ∧ S.length = 0) ∧ DiskE w' w.heap.size v P S ∧ Below w.heap.size w w' := by
 obtain ⟨a1, a2, a3, a4, q1, q2, q3, q4, hx⟩ := ht.shape
 subst hx
 have PA := hid (fun (u : World) (hu : Below w.heap.size w u) (vp vs : Value) (P : PgL) (S : SL) (hP : PageOk P) (hr : Row u vp P.length (flatS P)) (hs : Row u vs S.length (flatP S)) => specPlan_any _ T vp vs P S hP u hr hs (ht.below hu) hsz)
 clear ht hsz
 generalize T.pairs.length = n1 at *
 generalize T.cuts.length = n2 at *
 generalize T.kids.length = n3 at *
 generalize T.buf.length = n4 at *
 generalize T.leaf = lf at *
 have al := al1 w (.cells #[.bool lf, .slice a1 n1 q1, .slice a2 n2 q2, .slice a3 n3 q3, .slice a4 n4 q4] 54)
 have al' := al1 (w.alloc (.cells #[.bool lf, .slice a1 n1 q1, .slice a2 n2 q2, .slice a3 n3 q3, .slice a4 n4 q4] 54)) (.cells #[.slice none 0 0, .slice none 0 0] 27)
 obtain ⟨i0, hi, hz0, hz1, hz2⟩ := info_parts Try.info9
 obtain ⟨j0, hj, hj0, hj1, hj2⟩ := info_parts Try.info33
 have R1 : ∀ W : World, (Instr.makeSlice 24 (.int .i64 200) (.int .i64 200)).run Try.prog W = .ok (.slice (some ⟨W.heap.size, 0, none⟩) 200 200) (W.alloc (.cells (madeCells #[.string ⟨#[]⟩] 200) 9)) := fun W => by
  have h := run_make (P := Try.prog) W 24 9 i0 _ Try.underlying24 hi hz0 .i64 .i64 200 200 (by decide) (by decide) (by rw [hz2]; decide) (by decide)
  rw [hz1] at h
  exact h
 have R2 : ∀ W : World, (Instr.makeSlice 25 (.int .i64 2) (.int .i64 2)).run Try.prog W = .ok (.slice (some ⟨W.heap.size, 0, none⟩) 2 2) (W.alloc (.cells #[.int .i64 0, .int .i64 0, .int .i64 0, .int .i64 0] 33)) := fun W => by
  have h := run_make (P := Try.prog) W 25 33 j0 _ Try.underlying25 hj hj0 .i64 .i64 2 2 (by decide) (by decide) (by rw [hj2]; decide) (by decide)
  rw [hj1, show madeCells (Value.agg #[.int .i64 0, .int .i64 0]).cells (Int.toNat 2 * 2) = #[.int .i64 0, .int .i64 0, .int .i64 0, .int .i64 0] from Array.ext' ((madeCells_all _ (.int .i64 0) (by decide) (fun i hi => by match i, hi with | 0, _ => rfl | 1, _ => rfl) 4).trans rfl)] at h
  exact h
 generalize hA1 : madeCells #[Value.string ⟨#[]⟩] 200 = A1 at R1
 go_enter Try.func39, Try.ntmps39
 go_upto_region 1 with fail
 clear al al'
 go_cut [4] (fun d wx => ∃ D s1 s2 : Nat, d = .pointer (some ⟨D, 0, none⟩) ∧ Hid (DkG w #[.bool lf, .slice a1 n1 q1, .slice a2 n2 q2, .slice a3 n3 q3, .slice a4 n4 q4] D s1 s2 wx))
 case first =>
  go_region
  all_goals go_wp2_with fail
  all_goals go_meet
  all_goals (case rel => first | exact ⟨w.heap.size + 1 + 1, w.heap.size + 1 + 1 + 1, w.heap.size + 1 + 1 + 1 + 1, rfl, ⟨(al5 w _ _ _ _ _).1, (al5 w _ _ _ _ _).2.1, (al5 w _ _ _ _ _).2.2.1, (al5 w _ _ _ _ _).2.2.2.1, by rw [hA1]; exact (al5 w _ _ _ _ _).2.2.2.2.1, (al5 w _ _ _ _ _).2.2.2.2.2, by omega⟩⟩ | exact ⟨w.heap.size + 1 + 1, w.heap.size + 1 + 1 + 1 + 1, w.heap.size + 1 + 1 + 1, rfl, ⟨(al5 w _ _ _ _ _).1, (al5 w _ _ _ _ _).2.1, (al5 w _ _ _ _ _).2.2.1, (al5 w _ _ _ _ _).2.2.2.1, by rw [hA1]; exact (al5 w _ _ _ _ _).2.2.2.2.2, (al5 w _ _ _ _ _).2.2.2.2.1, by omega⟩⟩ | exact ⟨w.heap.size + 1 + 1 + 1, w.heap.size + 1 + 1, w.heap.size + 1 + 1 + 1 + 1, rfl, ⟨(al5 w _ _ _ _ _).1, (al5 w _ _ _ _ _).2.1, (al5 w _ _ _ _ _).2.2.1, (al5 w _ _ _ _ _).2.2.2.2.1, by rw [hA1]; exact (al5 w _ _ _ _ _).2.2.2.1, (al5 w _ _ _ _ _).2.2.2.2.2, by omega⟩⟩ | exact ⟨w.heap.size + 1 + 1 + 1, w.heap.size + 1 + 1 + 1 + 1, w.heap.size + 1 + 1, rfl, ⟨(al5 w _ _ _ _ _).1, (al5 w _ _ _ _ _).2.1, (al5 w _ _ _ _ _).2.2.1, (al5 w _ _ _ _ _).2.2.2.2.1, by rw [hA1]; exact (al5 w _ _ _ _ _).2.2.2.2.2, (al5 w _ _ _ _ _).2.2.2.1, by omega⟩⟩ | exact ⟨w.heap.size + 1 + 1 + 1 + 1, w.heap.size + 1 + 1, w.heap.size + 1 + 1 + 1, rfl, ⟨(al5 w _ _ _ _ _).1, (al5 w _ _ _ _ _).2.1, (al5 w _ _ _ _ _).2.2.1, (al5 w _ _ _ _ _).2.2.2.2.2, by rw [hA1]; exact (al5 w _ _ _ _ _).2.2.2.1, (al5 w _ _ _ _ _).2.2.2.2.1, by omega⟩⟩ | exact ⟨w.heap.size + 1 + 1 + 1 + 1, w.heap.size + 1 + 1 + 1, w.heap.size + 1 + 1, rfl, ⟨(al5 w _ _ _ _ _).1, (al5 w _ _ _ _ _).2.1, (al5 w _ _ _ _ _).2.2.1, (al5 w _ _ _ _ _).2.2.2.2.2, by rw [hA1]; exact (al5 w _ _ _ _ _).2.2.2.2.1, (al5 w _ _ _ _ _).2.2.2.1, by omega⟩⟩)
 case rest =>
  obtain ⟨D, s1, s2, rfl, J⟩ := hcut
  have PK : PageOk noPages := ⟨by simp, fun s hs => by rw [List.eq_of_mem_replicate hs]; decide⟩
  have RWS : Hid (∀ u, DkG w #[.bool lf, .slice a1 n1 q1, .slice a2 n2 q2, .slice a3 n3 q3, .slice a4 n4 q4] D s1 s2 u → Row u (.slice (some ⟨s1, 0, none⟩) 200 200) noPages.length (flatS noPages) ∧ Row u (.slice (some ⟨s2, 0, none⟩) 2 2) [((0 : Int), (0 : Int)), (0, 0)].length (flatP [(0, 0), (0, 0)])) := fun u h => h.rows
  have hZ : [((0 : Int), (0 : Int)), (0, 0)].length = 2 := rfl
  have hNP : noPages.length = 200 := by simp
  generalize noPages = NP at *
  generalize [((0 : Int), (0 : Int)), (0, 0)] = Z at *
  have HP := hid (PA.out wc J.out.b _ _ NP Z PK (RWS.out wc J.out).1 (RWS.out wc J.out).2)
  have PKH := hid PK
  have t0 : wc.cell? ⟨w.heap.size, 0, none⟩ = some (.bool lf) := cell_of_cells J.out.t
  have t1 : wc.cell? ⟨w.heap.size, 1, none⟩ = some (.slice a1 n1 q1) := cell_of_cells J.out.t
  have t2 : wc.cell? ⟨w.heap.size, 2, none⟩ = some (.slice a2 n2 q2) := cell_of_cells J.out.t
  have t3 : wc.cell? ⟨w.heap.size, 3, none⟩ = some (.slice a3 n3 q3) := cell_of_cells J.out.t
  have t4 : wc.cell? ⟨w.heap.size, 4, none⟩ = some (.slice a4 n4 q4) := cell_of_cells J.out.t
  have d0 : wc.cell? ⟨D, 0, none⟩ = some (.slice (some ⟨s1, 0, none⟩) 200 200) := cell_of_cells J.out.d
  have d1 : wc.cell? ⟨D, 1, none⟩ = some (.slice (some ⟨s2, 0, none⟩) 2 2) := cell_of_cells J.out.d
  clear PA R1 R2 hA1 PK
  go_wp2_with fail
  refine Calls.mono HP.out ?_
  rintro e w1 ⟨v, ok, rfl, hl, hb1⟩
  have J1 := hid (J.out.low hb1)
  have hlH := hid hl
  obtain ⟨va, vn, vq, hv⟩ := hl.slice
  subst hv
  have r0 : w1.cell? ⟨w.heap.size + 1, 0, none⟩ = some (.slice none 0 0) := cell_of_cells J1.out.r
  have r1 : w1.cell? ⟨w.heap.size + 1, 1, none⟩ = some (.slice none 0 0) := cell_of_cells J1.out.r
  have f0 : w1.frozen? ⟨w.heap.size + 1, 0, none⟩ = false := frozen_of_cells J1.out.r
  have f1 : w1.frozen? ⟨w.heap.size + 1, 1, none⟩ = false := frozen_of_cells J1.out.r
  clear t0 t1 t2 t3 t4 d0 d1 hb1 J hl HP
  cases ok with
  | false =>
   have R2 := heap_setCell_same _ _ 1 _ _ (.slice none 0 0) (heap_setCell_same w1 _ 0 _ _ (.slice none 0 0) J1.out.r)
   have n0 : ((w1.setCell ⟨w.heap.size + 1, 0, none⟩ (.slice none 0 0)).setCell ⟨w.heap.size + 1, 1, none⟩ (.slice none 0 0)).cell? ⟨w.heap.size + 1, 0, none⟩ = some (.slice none 0 0) := cell_of_cells R2
   have n1 : ((w1.setCell ⟨w.heap.size + 1, 0, none⟩ (.slice none 0 0)).setCell ⟨w.heap.size + 1, 1, none⟩ (.slice none 0 0)).cell? ⟨w.heap.size + 1, 1, none⟩ = some (.slice none 0 0) := cell_of_cells R2
   have BF := hid ((J1.out.b.setCell (p := ⟨w.heap.size + 1, 0, none⟩) (by show w.heap.size ≤ w.heap.size + 1; omega) (.slice none 0 0)).setCell (p := ⟨w.heap.size + 1, 1, none⟩) (by show w.heap.size ≤ w.heap.size + 1; omega) (.slice none 0 0))
   clear R2
   go_wp2
   refine bodyPost_ret (v := .tuple #[.agg #[.slice none 0 0, .slice none 0 0], .bool false]) (by simp [results, Try.results39, go_sem, n0, n1]) rfl ⟨_, [], [], false, rfl, ⟨by simp, fun s hs => by simp at hs⟩, .inr ⟨rfl, rfl⟩, ⟨_, _, rfl, OwnE.nil _ _ _ _, OwnE.nil _ _ _ _⟩, BF.out⟩
  | true =>
   obtain ⟨l3, hl3, hok3, h3⟩ := hlH.out
   obtain ⟨va', vq', hv'⟩ := h3.slice
   injection hv' with e1 e2 e3
   subst e1 e2 e3
   have u1 : DiskRow w1 (.agg #[.slice (some ⟨s1, 0, none⟩) 200 200, .slice (some ⟨s2, 0, none⟩) 2 2]) NP Z := ⟨_, _, rfl, RWS.out w1 J1.out⟩
   have u2 : Row w1 (.slice va l3.length vq) l3.length (flatW l3) := h3.rowN'
   have u3 : NP.length ≤ 1048576 := Nat.le_trans PKH.out.1 (by decide)
   have u4 : Z.length ≤ 1048576 := by rw [hZ]; decide
   have u5 : ∀ x ∈ l3, -9223372036854775808 ≤ x.1 ∧ x.1 ≤ 9223372036854775807 := fun x hx => (hok3 x hx).1
   have PD := hid (specDo_any _ NP Z _ l3 w1 u1 u2 u3 u4 u5)
   clear u1 u2 u3 u4 u5
   have PO := hid (dkP_ok l3 PKH.out hok3)
   have d0 : w1.cell? ⟨D, 0, none⟩ = some (.slice (some ⟨s1, 0, none⟩) 200 200) := cell_of_cells J1.out.d
   have d1 : w1.cell? ⟨D, 1, none⟩ = some (.slice (some ⟨s2, 0, none⟩) 2 2) := cell_of_cells J1.out.d
   clear h3 hok3 hlH r0 r1 f0 f1
   go_wp2_with fail
   refine Calls.mono PD.out ?_
   rintro e w2 ⟨v2, rfl, o2, hb2⟩
   have J2 := hid (J1.out.low hb2)
   obtain ⟨x1, y1, x2, y2, hv2⟩ := o2.shape''
   subst hv2
   have hS2 := hid ((dkS_length l3 Z).trans hZ)
   have hP2 := hid ((dkP_length l3 NP).trans hNP)
   have OE := hid (o2.mono (by exact J1.out.b.size))
   generalize dkP NP l3 = P2 at *
   generalize dkS Z l3 = S2 at *
   have r0 : w2.cell? ⟨w.heap.size + 1, 0, none⟩ = some (.slice none 0 0) := cell_of_cells J2.out.r
   have r1 : w2.cell? ⟨w.heap.size + 1, 1, none⟩ = some (.slice none 0 0) := cell_of_cells J2.out.r
   have f0 : w2.frozen? ⟨w.heap.size + 1, 0, none⟩ = false := frozen_of_cells J2.out.r
   have f1 : w2.frozen? ⟨w.heap.size + 1, 1, none⟩ = false := frozen_of_cells J2.out.r
   have R2 := heap_setCell_same _ _ 1 _ _ (.slice x2 S2.length y2) (heap_setCell_same w2 _ 0 _ _ (.slice x1 P2.length y1) J2.out.r)
   have n0 : ((w2.setCell ⟨w.heap.size + 1, 0, none⟩ (.slice x1 P2.length y1)).setCell ⟨w.heap.size + 1, 1, none⟩ (.slice x2 S2.length y2)).cell? ⟨w.heap.size + 1, 0, none⟩ = some (.slice x1 P2.length y1) := cell_of_cells R2
   have n1 : ((w2.setCell ⟨w.heap.size + 1, 0, none⟩ (.slice x1 P2.length y1)).setCell ⟨w.heap.size + 1, 1, none⟩ (.slice x2 S2.length y2)).cell? ⟨w.heap.size + 1, 1, none⟩ = some (.slice x2 S2.length y2) := cell_of_cells R2
   have ch : Chg (fun g => g = w.heap.size + 1) w2 ((w2.setCell ⟨w.heap.size + 1, 0, none⟩ (.slice x1 P2.length y1)).setCell ⟨w.heap.size + 1, 1, none⟩ (.slice x2 S2.length y2)) := ((Chg.refl (fun g => g = w.heap.size + 1) _).setAt (w.heap.size + 1) 0 rfl _).setAt (w.heap.size + 1) 1 rfl _
   have FIN : Hid (DiskE ((w2.setCell ⟨w.heap.size + 1, 0, none⟩ (.slice x1 P2.length y1)).setCell ⟨w.heap.size + 1, 1, none⟩ (.slice x2 S2.length y2)) w.heap.size (.agg #[.slice x1 P2.length y1, .slice x2 S2.length y2]) P2 S2 ∧ Below w.heap.size w ((w2.setCell ⟨w.heap.size + 1, 0, none⟩ (.slice x1 P2.length y1)).setCell ⟨w.heap.size + 1, 1, none⟩ (.slice x2 S2.length y2))) := by
    obtain ⟨p1, p2, e, e1, e2⟩ := OE.out
    simp at e
    obtain ⟨rfl, rfl⟩ := e
    exact ⟨⟨_, _, rfl, e1.chg ch (fun g hg => ownE_ne e1 J2.out.r (by decide) hg), e2.chg ch (fun g hg => ownE_ne e2 J2.out.r (by decide) hg)⟩, J2.out.b.trans (ch.below (fun g _ hg => by omega) J2.out.b.size)⟩
   clear ch R2 o2 hb2 OE d0 d1 PD
   go_wp2
   refine bodyPost_ret (v := .tuple #[.agg #[.slice x1 P2.length y1, .slice x2 S2.length y2], .bool true]) (by simp [results, Try.results39, go_sem, n0, n1]) rfl ⟨_, P2, S2, true, rfl, PO.out, .inl ⟨hP2.out, hS2.out⟩, FIN.out.1, FIN.out.2⟩
end
end Go.Proofs.Ytekcnibohikmdaa
