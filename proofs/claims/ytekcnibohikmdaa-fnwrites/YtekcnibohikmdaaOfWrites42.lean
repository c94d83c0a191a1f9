/-
  The model's DrawPlan: a drawn disk and a drawn tree.
  The model's l6DrawWrites, DrawDo: a drawn disk and a list of writes.
-/
import Derived.Test.YtekcnibohikmdaaOfWrites40
import Derived.Test.YtekcnibohikmdaaOfWrites41
namespace Go.Proofs.Ytekcnibohikmdaa
set_option maxRecDepth 100000
set_option maxHeartbeats 8000000
section
open Go.RowKit

def DkS (P : PgL) (S : SL) : Prop := PageOk P ∧ S.length ≤ 2
theorem DiskE.diskRow {w : World} {base : Nat} {v : Value} {P : PgL} {S : SL} (h : DiskE w base v P S) : DiskRow w v P S := by
 obtain ⟨vp, vs, rfl, h1, h2⟩ := h
 exact ⟨vp, vs, rfl, h1.rowN', h2.rowN'⟩
structure DpI (w : World) (C : Nat) (u : World) : Prop where
 b : Below w.heap.size w u
 r : u.heap[w.heap.size]? = some (.cells #[.slice none 0 0, .slice none 0 0] 27)
 t : OneAt u (w.heap.size + 1) #[.bool false, .slice none 0 0, .slice none 0 0, .slice none 0 0, .slice none 0 0]
 c : Cur u C
 l : w.heap.size + 2 ≤ C
theorem DpI.turn {w : World} {C : Nat} {u u' : World} (h : DpI w C u) (hc : Chg (fun b => b = C) u u') (hu : Cur u' C) : DpI w C u' := by
 have l := h.l
 exact ⟨h.b.trans (hc.below (fun g _ (e : g = C) => by omega) h.b.size), row_chg h.r hc (fun (e : _ = C) => by omega), h.t.chg hc (fun (e : _ = C) => by omega), hu, l⟩
theorem DpI.low {w : World} {C : Nat} {u u' : World} (h : DpI w C u) (hb : Below u.heap.size u u') : DpI w C u' := h.turn (Chg.of_below hb) (h.c.below hb)
theorem run26 (args : Array Value) (w : World) : (callFunc 26 args).run Try.prog w = .ok (.enter 26 args) w := by go_simp
def PlanDrawn (w : World) (e : Ending) (w' : World) : Prop := ∃ (v : Value) (y : TV) (P : PgL) (S : SL) (T : Tr), e = .returned (.tuple #[v, y.val]) ∧ DkS P S ∧ DiskE w' w.heap.size v P S ∧ TreeAt 8 w' y T ∧ sizeT 8 T ≤ 1099511627776 ∧ Below w.heap.size w w'

theorem drawPlan_any (v : Value) (bs : List Int) (w : World) (hcode : Code8 w v bs) (hn : bs.length ≤ 1048576) :
  Calls Try.prog 20 #[v] w (PlanDrawn w) := by
 have CODE := hid (fun (u : World) (h : Below w.heap.size w u) => hcode.below h)
 have HN := hid hn
 have a1 := al1 w (.cells #[.slice none 0 0, .slice none 0 0] 27)
 have a2 := al1 (w.alloc (.cells #[.slice none 0 0, .slice none 0 0] 27)) (.cells #[.bool false, .slice none 0 0, .slice none 0 0, .slice none 0 0, .slice none 0 0] 54)
 have S0 : Hid (Below w.heap.size w ((w.alloc (.cells #[.slice none 0 0, .slice none 0 0] 27)).alloc (.cells #[.bool false, .slice none 0 0, .slice none 0 0, .slice none 0 0, .slice none 0 0] 54)) ∧ ((w.alloc (.cells #[.slice none 0 0, .slice none 0 0] 27)).alloc (.cells #[.bool false, .slice none 0 0, .slice none 0 0, .slice none 0 0, .slice none 0 0] 54)).heap[w.heap.size]? = some (.cells #[.slice none 0 0, .slice none 0 0] 27) ∧ OneAt ((w.alloc (.cells #[.slice none 0 0, .slice none 0 0] 27)).alloc (.cells #[.bool false, .slice none 0 0, .slice none 0 0, .slice none 0 0, .slice none 0 0] 54)) (w.heap.size + 1) #[.bool false, .slice none 0 0, .slice none 0 0, .slice none 0 0, .slice none 0 0] ∧ w.heap.size + 2 ≤ ((w.alloc (.cells #[.slice none 0 0, .slice none 0 0] 27)).alloc (.cells #[.bool false, .slice none 0 0, .slice none 0 0, .slice none 0 0, .slice none 0 0] 54)).heap.size) :=
  ⟨Below.and a1 a2, (a2.block _ (by simp)).trans (heap_alloc_new _ _), OneAt.second _ _ _, by simp⟩
 clear hcode hn a1 a2
 go_enter Try.func20, Try.ntmps20
 go_upto_region 1 with fail
 refine wp_gen (fun u => Below w.heap.size w u ∧ u.heap[w.heap.size]? = some (.cells #[.slice none 0 0, .slice none 0 0] 27) ∧ OneAt u (w.heap.size + 1) #[.bool false, .slice none 0 0, .slice none 0 0, .slice none 0 0, .slice none 0 0] ∧ w.heap.size + 2 ≤ u.heap.size) S0.out ?_
 intro V hV
 have JV := hid hV
 clear hV S0
 go_wp2_with fail
 refine (l1New_any v bs V (CODE.out V JV.out.1) HN.out).mono ?_
 rintro e w1 ⟨rfl, c1, hlt1, b1⟩
 have J1 : Hid (DpI w V.heap.size w1) := by
  obtain ⟨j1, j2, j3, j4⟩ := JV.out
  exact ⟨j1.trans (b1.mono j1.size), row_chg j2 (Chg.of_below (F := fun _ => False) b1) id, j3.step b1, c1, j4⟩
 have HC := hid hlt1
 clear JV c1 b1 hlt1
 generalize V.heap.size = C at *
 have HD := hid (l6Draw_any C v bs w1 J1.out.c (CODE.out w1 J1.out.b) HN.out)
 go_wp2_with fail
 refine Calls.mono HD.out ?_
 rintro e w2 ⟨vd, P, S, rfl, hp, de, c2, G2⟩
 obtain ⟨pa1, pq1, pa2, pq2, hvd⟩ := de.shape''
 subst hvd
 have al := al1 w2 (.cells #[.slice pa1 P.length pq1, .slice pa2 S.length pq2] 27)
 have J2 : Hid (DpI w C (w2.alloc (.cells #[.slice pa1 P.length pq1, .slice pa2 S.length pq2] 27)) ∧ (w2.alloc (.cells #[.slice pa1 P.length pq1, .slice pa2 S.length pq2] 27)).heap[w2.heap.size]? = some (.cells #[.slice pa1 P.length pq1, .slice pa2 S.length pq2] 27) ∧ DiskE (w2.alloc (.cells #[.slice pa1 P.length pq1, .slice pa2 S.length pq2] 27)) w1.heap.size (.agg #[.slice pa1 P.length pq1, .slice pa2 S.length pq2]) P S) :=
  ⟨(J1.out.turn G2 c2).low al, heap_alloc_new _ _, de.chg (Chg.of_below (F := fun _ => False) al) (fun _ _ e => e) (fun _ _ e => e)⟩
 have HP : Hid (DkS P S) := hp
 have HND : Hid (C < w1.heap.size ∧ w1.heap.size ≤ w2.heap.size) := ⟨HC.out, G2.size⟩
 clear de c2 G2 al HD J1 hp HC
 generalize P.length = pn at *
 generalize S.length = sn at *
 go_upto_region 3 with fail
 refine wp_gen (fun u => DpI w C u ∧ u.heap[w2.heap.size]? = some (.cells #[.slice pa1 pn pq1, .slice pa2 sn pq2] 27) ∧ DiskE u w1.heap.size (.agg #[.slice pa1 pn pq1, .slice pa2 sn pq2]) P S) J2.out ?_
 intro V3 hV3
 have J3 : Hid (DpI w C V3.drew ∧ V3.drew.heap[w2.heap.size]? = some (.cells #[.slice pa1 pn pq1, .slice pa2 sn pq2] 27) ∧ DiskE V3.drew w1.heap.size (.agg #[.slice pa1 pn pq1, .slice pa2 sn pq2]) P S) := ⟨hV3.1.low (Below.refl _ V3).drew, hV3.2.1, hV3.2.2.chg (Chg.of_below (F := fun _ => False) (Below.refl _ V3).drew) (fun _ _ e => e) (fun _ _ e => e)⟩
 clear hV3 J2
 generalize w2.heap.size = ND at *
 generalize w1.heap.size = B1 at *
 refine wp_region_held_drew (S := fun u => u.cell? ⟨ND, 0, none⟩ = some (.slice pa1 pn pq1) ∧ u.cell? ⟨ND, 1, none⟩ = some (.slice pa2 sn pq2)) (by kernel_rfl) ⟨cell_of_cells J3.out.2.1, cell_of_cells J3.out.2.1⟩ (fun hH => ?_)
 generalize V3.drew = wd at *
 refine tq 0 rfl (by kernel_rfl) (fun _ _ _ h => h) (by assumption) rfl (by intro w h; go_simp <;> with_reducible rfl) ?_
 try simp only [Act.put, List.setIfInBounds_toArray, List.set_cons_zero, List.set_cons_succ]
 refine tq 1 rfl (by kernel_rfl) (fun _ _ _ h => h) (by assumption) rfl (by intro w h; go_simp <;> with_reducible rfl) ?_
 try simp only [Act.put, List.setIfInBounds_toArray, List.set_cons_zero, List.set_cons_succ]
 refine tq 2 rfl (by kernel_rfl) (fun _ _ _ h => h) (by assumption) rfl (by intro w h; go_simp <;> with_reducible rfl) ?_
 try simp only [Act.put, List.setIfInBounds_toArray, List.set_cons_zero, List.set_cons_succ]
 refine rq 3 (by kernel_rfl) rfl (fun K hK => ?_)
 refine step_func rfl 26 [.tmp 12, .tmp 13] #[45, 22] rfl run26 [.pointer (some ⟨C, 0, none⟩), v] rfl (l2Draw_any C v bs wd J3.out.1.c (CODE.out wd J3.out.1.b) HN.out) ?_
 rintro e w4 ⟨y, T, rfl, hsz, TF, cc, GG⟩
 obtain ⟨ya1, ya2, ya3, ya4, yq1, yq2, yq3, yq4, hyy⟩ := TF.treeAt.shape
 subst hyy
 refine ⟨_, rfl, ?_⟩
 have l3 := J3.out.1.l
 have J4 : Hid (DpI w C w4 ∧ w4.heap[ND]? = some (.cells #[.slice pa1 pn pq1, .slice pa2 sn pq2] 27) ∧ DiskE w4 B1 (.agg #[.slice pa1 pn pq1, .slice pa2 sn pq2]) P S) := ⟨J3.out.1.turn GG cc, row_chg J3.out.2.1 GG (fun (e : _ = C) => by have := HND.out; omega), J3.out.2.2.chg GG (fun g hg (e : g = C) => by have := J3.out.2.2.lt.1 g hg; have := HND.out; omega) (fun g hg (e : g = C) => by have := J3.out.2.2.lt.2 g hg; have := HND.out; omega)⟩
 have TT := hid (And.intro TF (And.intro hsz (show w.heap.size + 2 ≤ wd.heap.size by have := J3.out.1.c.lt; omega)))
 clear TF hsz cc GG J3
 generalize T.leaf = yl at *
 generalize T.pairs.length = yn1 at *
 generalize T.cuts.length = yn2 at *
 generalize T.kids.length = yn3 at *
 generalize T.buf.length = yn4 at *
 refine hK.out _ _ (⟨cell_of_cells J4.out.2.1, cell_of_cells J4.out.2.1⟩) (fun hH2 => ?_)
 clear hK K hH
 have hH := hH2
 clear hH2
 try simp only [Act.put, List.setIfInBounds_toArray, List.set_cons_zero, List.set_cons_succ]
 have r0 : w4.cell? ⟨w.heap.size, 0, none⟩ = some (.slice none 0 0) := cell_of_cells J4.out.1.r
 have r1 : w4.cell? ⟨w.heap.size, 1, none⟩ = some (.slice none 0 0) := cell_of_cells J4.out.1.r
 have f0 : w4.frozen? ⟨w.heap.size, 0, none⟩ = false := frozen_of_cells J4.out.1.r
 have f1 : w4.frozen? ⟨w.heap.size, 1, none⟩ = false := frozen_of_cells J4.out.1.r
 have ch1 : Chg (fun b => b = w.heap.size) w4 ((w4.setCell ⟨w.heap.size, 0, none⟩ (.slice pa1 pn pq1)).setCell ⟨w.heap.size, 1, none⟩ (.slice pa2 sn pq2)) := ((Chg.refl (fun g => g = w.heap.size) _).setAt w.heap.size 0 rfl _).setAt w.heap.size 1 rfl _
 have R5 : Hid (((w4.setCell ⟨w.heap.size, 0, none⟩ (.slice pa1 pn pq1)).setCell ⟨w.heap.size, 1, none⟩ (.slice pa2 sn pq2)).heap[w.heap.size]? = some (.cells #[.slice pa1 pn pq1, .slice pa2 sn pq2] 27)) := heap_setCell_same _ _ 1 _ _ _ (heap_setCell_same w4 _ 0 _ _ _ J4.out.1.r)
 refine rq 4 (by kernel_rfl) rfl (fun K hK => ?_)
 go_simp
 have T5 := J4.out.1.t.chg ch1 (fun (e : _ = w.heap.size) => by omega)
 have N5 := row_chg J4.out.2.1 ch1 (fun (e : ND = w.heap.size) => by have := HND.out; omega)
 have CH1 := hid ch1
 clear ch1 r0 r1 f0 f1
 generalize (w4.setCell ⟨w.heap.size, 0, none⟩ (.slice pa1 pn pq1)).setCell ⟨w.heap.size, 1, none⟩ (.slice pa2 sn pq2) = w5 at *
 refine hK.out _ _ (⟨cell_of_cells N5, cell_of_cells N5⟩) (fun hH2 => ?_)
 clear hK K hH
 have hH := hH2
 clear hH2
 try simp only [Act.put, List.setIfInBounds_toArray, List.set_cons_zero, List.set_cons_succ]
 obtain ⟨⟨m0, m1, m2, m3, m4⟩, k0, k1, k2, k3, k4⟩ := box_all5 T5
 refine rq 5 (by kernel_rfl) rfl (fun K hK => ?_)
 go_simp
 have ch2 := chg_set5 w5 (w.heap.size + 1) (.bool yl) (.slice ya1 yn1 yq1) (.slice ya2 yn2 yq2) (.slice ya3 yn3 yq3) (.slice ya4 yn4 yq4)
 have T6 := T5.set5 (.bool yl) (.slice ya1 yn1 yq1) (.slice ya2 yn2 yq2) (.slice ya3 yn3 yq3) (.slice ya4 yn4 yq4)
 have R6 := row_chg R5.out ch2 (fun (e : w.heap.size = w.heap.size + 1) => by omega)
 have N6 := row_chg N5 ch2 (fun (e : ND = w.heap.size + 1) => by have := HND.out; omega)
 have FIN : Hid (DkS P S ∧ DiskE (set5 w5 (w.heap.size + 1) (.bool yl) (.slice ya1 yn1 yq1) (.slice ya2 yn2 yq2) (.slice ya3 yn3 yq3) (.slice ya4 yn4 yq4)) w.heap.size (.agg #[.slice pa1 pn pq1, .slice pa2 sn pq2]) P S ∧ TreeAt 8 (set5 w5 (w.heap.size + 1) (.bool yl) (.slice ya1 yn1 yq1) (.slice ya2 yn2 yq2) (.slice ya3 yn3 yq3) (.slice ya4 yn4 yq4)) (⟨yl, .slice ya1 yn1 yq1, .slice ya2 yn2 yq2, .slice ya3 yn3 yq3, .slice ya4 yn4 yq4⟩ : TV) T ∧ sizeT 8 T ≤ 1099511627776 ∧ Below w.heap.size w (set5 w5 (w.heap.size + 1) (.bool yl) (.slice ya1 yn1 yq1) (.slice ya2 yn2 yq2) (.slice ya3 yn3 yq3) (.slice ya4 yn4 yq4))) := by
  have hnd := HND.out
  have ch : Chg (fun b => b < w.heap.size + 2 ∧ w.heap.size ≤ b) w4 (set5 w5 (w.heap.size + 1) (.bool yl) (.slice ya1 yn1 yq1) (.slice ya2 yn2 yq2) (.slice ya3 yn3 yq3) (.slice ya4 yn4 yq4)) := (CH1.out.mono (fun g _ (e : g = w.heap.size) => by omega)).trans ch2 (fun g _ (e : g = w.heap.size + 1) => by omega)
  exact ⟨HP.out, (J4.out.2.2.chg ch (fun g hg e => by have := J4.out.2.2.lt.1 g hg; omega) (fun g hg e => by have := J4.out.2.2.lt.2 g hg; omega)).mono (by omega), (TT.out.1.chg ch (fun g hg e => by have := TT.out.2.2; omega)).treeAt, TT.out.2.1, J4.out.1.b.trans (ch.below (fun g _ e => e.2) J4.out.1.b.size)⟩
 clear ch2 m0 m1 m2 m3 m4 k0 k1 k2 k3 k4 R5 T5 N5
 show K _ (set5 w5 (w.heap.size + 1) (.bool yl) (.slice ya1 yn1 yq1) (.slice ya2 yn2 yq2) (.slice ya3 yn3 yq3) (.slice ya4 yn4 yq4))
 generalize set5 w5 (w.heap.size + 1) (.bool yl) (.slice ya1 yn1 yq1) (.slice ya2 yn2 yq2) (.slice ya3 yn3 yq3) (.slice ya4 yn4 yq4) = w6 at *
 refine hK.out _ _ (⟨cell_of_cells N6, cell_of_cells N6⟩) (fun hH2 => ?_)
 clear hK K hH
 have hH := hH2
 clear hH2
 try simp only [Act.put, List.setIfInBounds_toArray, List.set_cons_zero, List.set_cons_succ]
 refine wpAnyH_done (by kernel_rfl) ?_ _
 obtain ⟨x0, x1, x2, x3, x4⟩ := box_cells5 T6
 have n0 : w6.cell? ⟨w.heap.size, 0, none⟩ = some (.slice pa1 pn pq1) := cell_of_cells R6
 have n1 : w6.cell? ⟨w.heap.size, 1, none⟩ = some (.slice pa2 sn pq2) := cell_of_cells R6
 go_wp2
 refine bodyPost_ret (v := .tuple #[.agg #[.slice pa1 pn pq1, .slice pa2 sn pq2], .agg #[.bool yl, .slice ya1 yn1 yq1, .slice ya2 yn2 yq2, .slice ya3 yn3 yq3, .slice ya4 yn4 yq4]]) (by simp [results, Try.results20, go_sem, n0, n1, x0, x1, x2, x3, x4]) rfl ⟨_, (⟨yl, .slice ya1 yn1 yq1, .slice ya2 yn2 yq2, .slice ya3 yn3 yq3, .slice ya4 yn4 yq4⟩ : TV), P, S, T, rfl, FIN.out⟩
end
section
open Go.RowKit

def WritesDrawn (w : World) (e : Ending) (w' : World) : Prop := ∃ (v vl : Value) (P : PgL) (S : SL), e = .returned (.tuple #[v, vl]) ∧ DkS P S ∧ DiskE w' w.heap.size v P S ∧ Lst w' w.heap.size vl 1000003 ∧ Below w.heap.size w w'
structure DwI (w : World) (X : Nat) (vp vs : Value) (P : PgL) (S : SL) (u : World) : Prop where
 b : Below w.heap.size w u
 r : u.heap[w.heap.size]? = some (.cells #[.slice none 0 0, .slice none 0 0] 27)
 x : u.heap[X]? = some (.cells #[vp, vs] 27)
 d : DiskE u (w.heap.size + 1) (.agg #[vp, vs]) P S
theorem DwI.low {w : World} {X : Nat} {vp vs : Value} {P : PgL} {S : SL} {u u' : World} (h : DwI w X vp vs P S u) (hb : Below u.heap.size u u') : DwI w X vp vs P S u' :=
 ⟨h.b.trans (hb.mono h.b.size), row_chg h.r (Chg.of_below (F := fun _ => False) hb) id, row_chg h.x (Chg.of_below (F := fun _ => False) hb) id, h.d.chg (Chg.of_below (F := fun _ => False) hb) (fun _ _ e => e) (fun _ _ e => e)⟩
theorem DwI.fin {w : World} {X : Nat} {vp vs : Value} {P : PgL} {S : SL} {u : World} (h : DwI w X vp vs P S u) :
  (u.cell? ⟨X, 0, none⟩ = some vp ∧ u.cell? ⟨X, 1, none⟩ = some vs) ∧ (u.cell? ⟨w.heap.size, 0, none⟩ = some (.slice none 0 0) ∧ u.cell? ⟨w.heap.size, 1, none⟩ = some (.slice none 0 0) ∧ u.frozen? ⟨w.heap.size, 0, none⟩ = false ∧ u.frozen? ⟨w.heap.size, 1, none⟩ = false) ∧
  (((u.setCell ⟨w.heap.size, 0, none⟩ vp).setCell ⟨w.heap.size, 1, none⟩ vs).cell? ⟨w.heap.size, 0, none⟩ = some vp ∧ ((u.setCell ⟨w.heap.size, 0, none⟩ vp).setCell ⟨w.heap.size, 1, none⟩ vs).cell? ⟨w.heap.size, 1, none⟩ = some vs) ∧
  Chg (fun b => b = w.heap.size) u ((u.setCell ⟨w.heap.size, 0, none⟩ vp).setCell ⟨w.heap.size, 1, none⟩ vs) ∧
  (DiskE ((u.setCell ⟨w.heap.size, 0, none⟩ vp).setCell ⟨w.heap.size, 1, none⟩ vs) w.heap.size (.agg #[vp, vs]) P S ∧ Below w.heap.size w ((u.setCell ⟨w.heap.size, 0, none⟩ vp).setCell ⟨w.heap.size, 1, none⟩ vs)) := by
 have ch : Chg (fun b => b = w.heap.size) u ((u.setCell ⟨w.heap.size, 0, none⟩ vp).setCell ⟨w.heap.size, 1, none⟩ vs) := ((Chg.refl (fun g => g = w.heap.size) _).setAt w.heap.size 0 rfl _).setAt w.heap.size 1 rfl _
 have R2 := heap_setCell_same _ _ 1 _ _ vs (heap_setCell_same u _ 0 _ _ vp h.r)
 exact ⟨⟨cell_of_cells h.x, cell_of_cells h.x⟩, ⟨cell_of_cells h.r, cell_of_cells h.r, frozen_of_cells h.r, frozen_of_cells h.r⟩, ⟨cell_of_cells R2, cell_of_cells R2⟩, ch, (h.d.chg ch (fun g hg (e : g = w.heap.size) => by have := h.d.lt.1 g hg; omega) (fun g hg (e : g = w.heap.size) => by have := h.d.lt.2 g hg; omega)).mono (by omega), h.b.trans (ch.below (fun g _ (e : g = w.heap.size) => by omega) h.b.size)⟩

theorem Lst.base {w : World} {B B' k : Nat} {v : Value} (h : Lst w B v k) (hb : B' ≤ B) : Lst w B' v k := by
 obtain ⟨l, h1, h2, h3⟩ := h
 exact ⟨l, h1, h2, h3.mono hb⟩

theorem l6DrawWrites_any (v : Value) (bs : List Int) (w : World) (hcode : Code8 w v bs) (hn : bs.length ≤ 1048576) :
  Calls Try.prog 11 #[v] w (WritesDrawn w) := by
 obtain ⟨i0, hi, hz0, hz1, hz2⟩ := info_parts Try.info35
 have CODE := hid (fun (u : World) (h : Below w.heap.size w u) => hcode.below h)
 have HN := hid hn
 have a1 := al1 w (.cells #[.slice none 0 0, .slice none 0 0] 27)
 have HD := hid (drawPlan_any v bs (w.alloc (.cells #[.slice none 0 0, .slice none 0 0] 27)) (hcode.below a1) hn)
 have A1 := hid a1
 have R0 := hid (heap_alloc_new w (.cells #[.slice none 0 0, .slice none 0 0] 27))
 clear hcode hn a1
 go_enter Try.func11, Try.ntmps11
 go_wp2_with fail
 refine Calls.mono HD.out ?_
 rintro e w1 ⟨vd, y, P, S, T, rfl, hp, de, ht, hsz, b1⟩
 obtain ⟨pa1, pq1, pa2, pq2, hvd⟩ := de.shape''
 subst hvd
 obtain ⟨ya1, ya2, ya3, ya4, yq1, yq2, yq3, yq4, hyy⟩ := ht.shape
 subst hyy
 have HP := hid hp
 have bx := al1 w1 (.cells #[.slice pa1 P.length pq1, .slice pa2 S.length pq2] 27)
 have J0 : DwI w w1.heap.size (.slice pa1 P.length pq1) (.slice pa2 S.length pq2) P S (w1.alloc (.cells #[.slice pa1 P.length pq1, .slice pa2 S.length pq2] 27)) := by
  have hb := Below.and b1 bx
  exact ⟨Below.and A1.out hb, row_chg R0.out (Chg.of_below (F := fun _ => False) hb) id, heap_alloc_new _ _, (de.mono (by simp)).chg (Chg.of_below (F := fun _ => False) bx) (fun _ _ e => e) (fun _ _ e => e)⟩
 have by1 := al1 (w1.alloc (.cells #[.slice pa1 P.length pq1, .slice pa2 S.length pq2] 27)) (.cells #[.bool T.leaf, .slice ya1 T.pairs.length yq1, .slice ya2 T.cuts.length yq2, .slice ya3 T.kids.length yq3, .slice ya4 T.buf.length yq4] 54)
 have J1 : Hid (DwI w w1.heap.size (.slice pa1 P.length pq1) (.slice pa2 S.length pq2) P S ((w1.alloc (.cells #[.slice pa1 P.length pq1, .slice pa2 S.length pq2] 27)).alloc (.cells #[.bool T.leaf, .slice ya1 T.pairs.length yq1, .slice ya2 T.cuts.length yq2, .slice ya3 T.kids.length yq3, .slice ya4 T.buf.length yq4] 54)) ∧ OneAt ((w1.alloc (.cells #[.slice pa1 P.length pq1, .slice pa2 S.length pq2] 27)).alloc (.cells #[.bool T.leaf, .slice ya1 T.pairs.length yq1, .slice ya2 T.cuts.length yq2, .slice ya3 T.kids.length yq3, .slice ya4 T.buf.length yq4] 54)) (w1.heap.size + 1) #[.bool T.leaf, .slice ya1 T.pairs.length yq1, .slice ya2 T.cuts.length yq2, .slice ya3 T.kids.length yq3, .slice ya4 T.buf.length yq4]) :=
  ⟨J0.low by1, OneAt.second _ _ _⟩
 have TT := hid (And.intro (ht.below (Below.and bx by1)) hsz)
 clear hp de ht hsz b1 bx J0 by1 HD A1 R0
 generalize hV : (w1.alloc (.cells #[.slice pa1 P.length pq1, .slice pa2 S.length pq2] 27)).alloc (.cells #[.bool T.leaf, .slice ya1 T.pairs.length yq1, .slice ya2 T.cuts.length yq2, .slice ya3 T.kids.length yq3, .slice ya4 T.buf.length yq4] 54) = V at *
 have HV := hid hV
 clear hV
 have HP2 := hid (specPlan_any _ T _ _ P S HP.out.1 V J1.out.1.d.row.1 J1.out.1.d.row.2 TT.out.1 TT.out.2)
 clear TT
 generalize P.length = pn at *
 generalize S.length = sn at *
 generalize T.leaf = yl at *
 generalize T.pairs.length = yn1 at *
 generalize T.cuts.length = yn2 at *
 generalize T.kids.length = yn3 at *
 generalize T.buf.length = yn4 at *
 go_upto_region 2 with fail
 rw [HV.out]
 obtain ⟨t0, t1, t2, t3, t4⟩ := box_cells5 J1.out.2
 obtain ⟨⟨d0, d1⟩, _⟩ := J1.out.1.fin
 go_wp2_with fail
 refine Calls.mono HP2.out ?_
 rintro e w2 ⟨vl, ok, rfl, hl, b2⟩
 obtain ⟨va, vn, vq, hv⟩ := hl.slice
 subst hv
 have J2 := hid (J1.out.1.low b2)
 have hVw : w.heap.size < V.heap.size := (Array.getElem?_eq_some_iff.1 J1.out.1.r).1
 have HVW := hid hVw
 have HL := hid hl
 have DBV : Hid (∀ g, wrB (.slice pa1 pn pq1) g ∨ wrB (.slice pa2 sn pq2) g → g < V.heap.size) := fun g hg => by
  obtain ⟨vp', vs', e, o1, o2⟩ := J1.out.1.d
  simp at e
  obtain ⟨rfl, rfl⟩ := e
  rcases hg with h | h
  ·exact (o1.lt g h).2
  ·exact (o2.lt g h).2
 have HXV := hid (show w1.heap.size < V.heap.size from (Array.getElem?_eq_some_iff.1 J1.out.1.x).1)
 have CV := hid b2.size
 clear t0 t1 t2 t3 t4 d0 d1 hl b2 HP2 J1 hVw
 go_wp2_with fail
 refine (l1New_any v bs w2 (CODE.out w2 J2.out.b) HN.out).mono ?_
 rintro e w3 ⟨rfl, c3, hlt3, b3⟩
 have HO := hid (l1Once_any w2.heap.size 9 w3 c3 (by decide))
 have J3 := hid (J2.out.low b3)
 have L3 : Hid (Lst w3 V.heap.size (.slice va vn vq) 1000002 ∧ ∀ g, wrB (.slice va vn vq) g → g < w2.heap.size) := ⟨HL.out.below b3, fun g hg => by
  obtain ⟨l3, _, _, h3⟩ := HL.out
  exact (h3.lt g hg).2⟩
 have HX := hid (show w1.heap.size < w2.heap.size from (Array.getElem?_eq_some_iff.1 J2.out.x).1)
 have HW := hid J2.out.b.size
 have HS := hid (show w.heap.size < w2.heap.size from (Array.getElem?_eq_some_iff.1 J2.out.r).1)
 have CT : Hid (∀ u u', DwI w w1.heap.size (.slice pa1 pn pq1) (.slice pa2 sn pq2) P S u → (∀ g, wrB (.slice pa1 pn pq1) g ∨ wrB (.slice pa2 sn pq2) g → g < w2.heap.size) → Chg (fun b => w2.heap.size ≤ b) u u' → DwI w w1.heap.size (.slice pa1 pn pq1) (.slice pa2 sn pq2) P S u') := fun u u' j hd hc =>
  ⟨j.b.trans (hc.below (fun g _ e => by have := HW.out; omega) j.b.size), row_chg j.r hc (by have := HS.out; omega), row_chg j.x hc (by have := HX.out; omega), j.d.chg hc (fun g hg e => by have := hd g (.inl hg); omega) (fun g hg e => by have := hd g (.inr hg); omega)⟩
 have DB : Hid (∀ g, wrB (.slice pa1 pn pq1) g ∨ wrB (.slice pa2 sn pq2) g → g < w2.heap.size) := fun g hg => by
  obtain ⟨vp', vs', e, o1, o2⟩ := J2.out.d
  simp at e
  obtain ⟨rfl, rfl⟩ := e
  rcases hg with h | h
  ·exact (o1.lt g h).2
  ·exact (o2.lt g h).2
 have hB3 := b3.size
 clear J2 HL c3 hlt3 b3
 go_wp2_with fail
 refine Calls.mono HO.out ?_
 rintro e w4 ⟨b, rfl, c4, G4⟩
 have J4 := hid (CT.out _ _ J3.out DB.out (G4.mono (fun g _ (e : g = w2.heap.size) => Nat.le_of_eq e.symm)))
 have L4 := hid (L3.out.1.chg G4 (fun g hg (e : g = w2.heap.size) => by have := L3.out.2 g hg; omega))
 have C4 := hid c4
 have CO := hid (Nat.le_trans CV.out (Nat.le_trans hB3 G4.size))
 clear c4 G4 HO J3
 generalize hC : w2.heap.size = C at *
 clear hC
 cases b with
 | false =>
  obtain ⟨⟨d0, d1⟩, ⟨r0, r1, f0, f1⟩, ⟨n0, n1⟩, ch, fin⟩ := J4.out.fin
  have FIN := hid (And.intro fin (((L4.out.chg ch (fun g hg (e : g = w.heap.size) => by obtain ⟨l3, _, _, h3⟩ := L4.out; have h1 := (h3.lt g hg).1; have h2 := HVW.out; omega)).mono (k' := 1000003) (by decide)).base (Nat.le_of_lt HVW.out)))
  clear ch fin
  go_wp2
  refine bodyPost_ret (v := .tuple #[.agg #[.slice pa1 pn pq1, .slice pa2 sn pq2], .slice va vn vq]) (by simp [results, Try.results11, go_sem, n0, n1]) rfl ⟨_, _, P, S, rfl, HP.out, FIN.out.1.1, FIN.out.2, FIN.out.1.2⟩
 | true =>
  have b5 := bel_new w4 (.cells #[.int .i64 (-3), .int .i64 200, .int .i64 5, .int .i64 (-2), .int .i64 (-9223372036854775808)] 3)
  have N5 := heap_alloc_new w4 (.cells #[.int .i64 (-3), .int .i64 200, .int .i64 5, .int .i64 (-2), .int .i64 (-9223372036854775808)] 3)
  have hC4 := C4.out.lt
  have hl4 : ∀ g, wrB (.slice va vn vq) g → V.heap.size ≤ g := by
   obtain ⟨l3, _, _, h3⟩ := L4.out
   exact fun g hg => (h3.lt g hg).1
  have HPI := hid (l1PickInt_any C w4.heap.size [-3, 200, 5, -2, -9223372036854775808] (by decide) (by decide) (w4.alloc (.cells #[.int .i64 (-3), .int .i64 200, .int .i64 5, .int .i64 (-2), .int .i64 (-9223372036854775808)] 3)) (C4.out.below b5) N5 (by omega))
  have J5 := hid (J4.out.low b5)
  have L5 := hid (L4.out.below b5)
  clear b5 N5 J4 L4 hl4
  go_wp2_with fail
  refine Calls.mono HPI.out ?_
  rintro e w6 ⟨z, rfl, hz, c6, G6⟩
  have hzb : -9223372036854775808 ≤ z ∧ z ≤ 9223372036854775807 := by
   simp at hz
   omega
  have J6 := hid (CT.out _ _ J5.out DB.out (G6.mono (fun g _ (e : g = C) => Nat.le_of_eq e.symm)))
  have L6 := L5.out.chg G6 (fun g hg (e : g = C) => by have := L3.out.2 g hg; omega)
  have hw6 : V.heap.size ≤ w6.heap.size := by
   have h1 := G6.size
   have h2 := CO.out
   simp at h1
   omega
  clear hz c6 G6 HPI J5 L5
  obtain ⟨l3, hl3, hok3, h3⟩ := L6
  obtain ⟨va', vq', hv'⟩ := h3.slice
  injection hv' with e1 e2 e3
  subst e1 e2 e3
  have RW := roomW (n := l3.length) (m := 1) (by omega)
  have bw := bel_new w6 (.cells #[.int .i64 z, .string ⟨#[113]⟩, .int .i64 0, .int .i64 0] 35)
  have h3b := hid (h3.below bw)
  have J7 := hid (J6.out.low bw)
  have hlw := hid (fun g (hg : wrB (.slice va l3.length vq) g) => (h3.lt g hg).1)
  have RL := hid (Row.laid w6 (flatW [(z, (⟨#[113]⟩ : ByteArray), 0, 0)]) 35 _ rfl)
  have hb9 : V.heap.size ≤ (w6.alloc (.cells #[.int .i64 z, .string ⟨#[113]⟩, .int .i64 0, .int .i64 0] 35)).heap.size := by simp; omega
  clear h3 bw J6
  go_wp2_with (at_builtin; go_loud (refine list_appE (w6.alloc (.cells #[.int .i64 z, .string ⟨#[113]⟩, .int .i64 0, .int .i64 0] 35)) rfl _ _ 28 rfl V.heap.size 35 i0 _ 4 40 Try.underlying28 hi hz0 hz1 hz2 rfl (by decide) (.slice va l3.length vq) l3.length (flatW l3) rfl h3b.out (.slice (some ⟨w6.heap.size, 0, none⟩) 1 1) 1 (flatW [(z, (⟨#[113]⟩ : ByteArray), 0, 0)]) rfl RL.out rfl (flatW_one _) RW.1 RW.2 hb9 ?_))
  intro v2 w7 A2
  obtain ⟨o2, g2, b7, n2⟩ := A2
  have LF : Lst w7 V.heap.size v2 1000003 := ⟨l3 ++ [(z, (⟨#[113]⟩ : ByteArray), 0, 0)], by simp; omega, fun y hy => by
   rcases List.mem_append.1 hy with h | h
   ·exact hok3 y h
   ·simp at h
    subst h
    exact ⟨hzb, by show (1 : Nat) ≤ 200; decide⟩, by rw [flatW_append]; simpa using o2⟩
  have J8 : DwI w w1.heap.size (.slice pa1 pn pq1) (.slice pa2 sn pq2) P S w7 := by
   have hd := DBV.out
   exact ⟨J7.out.b.trans (g2.below (fun g _ e => by have := hlw.out g e; have := HVW.out; omega) J7.out.b.size), row_chg J7.out.r g2 (fun e => by have := hlw.out _ e; have := HVW.out; omega), row_chg J7.out.x g2 (fun e => by have := hlw.out _ e; have := HXV.out; omega), J7.out.d.chg g2 (fun g hg e => by have := hd g (.inl hg); have := hlw.out g e; omega) (fun g hg e => by have := hd g (.inr hg); have := hlw.out g e; omega)⟩
  obtain ⟨⟨d0, d1⟩, ⟨r0, r1, f0, f1⟩, ⟨n0, n1⟩, ch, fin⟩ := J8.fin
  have FIN := hid (And.intro fin ((LF.chg ch (fun g hg (e : g = w.heap.size) => by obtain ⟨l4, _, _, h4⟩ := LF; have h1 := (h4.lt g hg).1; have h2 := HVW.out; omega)).base (Nat.le_of_lt HVW.out)))
  clear o2 g2 b7 n2 LF J8 ch fin h3b RL J7
  obtain ⟨va2, vn2, vq2, hv2⟩ := FIN.out.2.slice
  subst hv2
  go_wp2
  refine bodyPost_ret (v := .tuple #[.agg #[.slice pa1 pn pq1, .slice pa2 sn pq2], .slice va2 vn2 vq2]) (by simp [results, Try.results11, go_sem, n0, n1]) rfl ⟨_, _, P, S, rfl, HP.out, FIN.out.1.1, FIN.out.2, FIN.out.1.2⟩
end
end Go.Proofs.Ytekcnibohikmdaa
