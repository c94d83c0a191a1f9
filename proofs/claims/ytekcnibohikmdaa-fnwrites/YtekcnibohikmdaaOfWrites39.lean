/-
  The model's drawn disk: a new one on which some trees were written.
  What becomes of a tree in memory of its own when one of its rows is appended to, or written.
  More functions that are entered.
-/
import Derived.Test.YtekcnibohikmdaaOfWrites38
import Derived.Test.YtekcnibohikmdaaOfWrites36
import Derived.Test.YtekcnibohikmdaaOfWrites35
import Derived.Test.YtekcnibohikmdaaOfWrites33
import Derived.Test.YtekcnibohikmdaaOfWrites23
namespace Go.Proofs.Ytekcnibohikmdaa
set_option maxRecDepth 100000
set_option maxHeartbeats 8000000
section
open Go.RowKit

def DkN (P : PgL) (S : SL) : Prop := PageOk P ∧ (P.length = 200 ∧ S.length = 2 ∨ P.length = 0 ∧ S.length = 0)
theorem DiskE.chg {F : Nat → Prop} {w w' : World} {base : Nat} {vp vs : Value} {P : PgL} {S : SL} (h : DiskE w base (.agg #[vp, vs]) P S) (hc : Chg F w w') (h1 : ∀ g, wrB vp g → ¬ F g) (h2 : ∀ g, wrB vs g → ¬ F g) : DiskE w' base (.agg #[vp, vs]) P S := by
 obtain ⟨p, s, e, o1, o2⟩ := h
 simp at e
 obtain ⟨rfl, rfl⟩ := e
 exact ⟨_, _, rfl, o1.chg hc h1, o2.chg hc h2⟩
theorem DiskE.lt {w : World} {base : Nat} {vp vs : Value} {P : PgL} {S : SL} (h : DiskE w base (.agg #[vp, vs]) P S) : (∀ g, wrB vp g → base ≤ g) ∧ (∀ g, wrB vs g → base ≤ g) := by
 obtain ⟨p, s, e, o1, o2⟩ := h
 simp at e
 obtain ⟨rfl, rfl⟩ := e
 exact ⟨fun g hg => (o1.lt g hg).1, fun g hg => (o2.lt g hg).1⟩
theorem DiskE.not {w : World} {base : Nat} {vp vs : Value} {P : PgL} {S : SL} (h : DiskE w base (.agg #[vp, vs]) P S) {X t : Nat} {c : Array Value} (hX : w.heap[X]? = some (.cells c t)) (h1 : t ≠ 9) (h2 : t ≠ 33) : ¬ wrB vp X ∧ ¬ wrB vs X := by
 obtain ⟨p, s, e, o1, o2⟩ := h
 simp at e
 obtain ⟨rfl, rfl⟩ := e
 exact ⟨fun hg => ownE_ne o1 hX h1 hg rfl, fun hg => ownE_ne o2 hX h2 hg rfl⟩
theorem DiskE.row {w : World} {base : Nat} {vp vs : Value} {P : PgL} {S : SL} (h : DiskE w base (.agg #[vp, vs]) P S) : Row w vp P.length (flatS P) ∧ Row w vs S.length (flatP S) := by
 obtain ⟨p, s, e, o1, o2⟩ := h
 simp at e
 obtain ⟨rfl, rfl⟩ := e
 exact ⟨o1.rowN', o2.rowN'⟩

structure DrI (w : World) (C NT ND : Nat) (y : TV) (T : Tr) (vp vs : Value) (P : PgL) (S : SL) (u : World) : Prop where
 c : Cur u C
 g : Chg (fun b => b = C) w u
 r : u.heap[w.heap.size]? = some (.cells #[.slice none 0 0, .slice none 0 0] 27)
 t : OneAt u NT y.cells.toArray
 x : u.heap[ND]? = some (.cells #[vp, vs] 27)
 d : DiskE u w.heap.size (.agg #[vp, vs]) P S
 f : TreeD 8 u (fun b => w.heap.size < b ∧ b ≠ NT ∧ b ≠ ND) y T
 ok : okT T = true
 p : DkN P S
 l : C < w.heap.size ∧ w.heap.size < NT ∧ NT < ND
theorem DrI.turn {w : World} {C NT ND : Nat} {y : TV} {T : Tr} {vp vs : Value} {P : PgL} {S : SL} {u u' : World} (h : DrI w C NT ND y T vp vs P S u) (hc : Chg (fun b => b = C) u u') (hu : Cur u' C) : DrI w C NT ND y T vp vs P S u' := by
 have l := h.l
 have dl := h.d.lt
 exact ⟨hu, h.g.trans hc (fun _ _ e => e), row_chg h.r hc (fun (e : _ = C) => by omega), h.t.chg hc (fun (e : _ = C) => by omega), row_chg h.x hc (fun (e : _ = C) => by omega), h.d.chg hc (fun g hg (e : g = C) => by have := dl.1 g hg; omega) (fun g hg (e : g = C) => by have := dl.2 g hg; omega), h.f.chg hc (fun g hg (e : g = C) => by have := hg.1; omega), h.ok, h.p, h.l⟩
theorem DrI.low {w : World} {C NT ND : Nat} {y : TV} {T : Tr} {vp vs : Value} {P : PgL} {S : SL} {u u' : World} (h : DrI w C NT ND y T vp vs P S u) (hb : Below u.heap.size u u') : DrI w C NT ND y T vp vs P S u' := h.turn (Chg.of_below hb) (h.c.below hb)
theorem DrI.lt {w : World} {C NT ND : Nat} {y : TV} {T : Tr} {vp vs : Value} {P : PgL} {S : SL} {u : World} (h : DrI w C NT ND y T vp vs P S u) : ND < u.heap.size := (Array.getElem?_eq_some_iff.1 h.x).1
theorem DrI.tree {w : World} {C NT ND : Nat} {y y' : TV} {T T' : Tr} {vp vs : Value} {P : PgL} {S : SL} {u : World} {v0 v1 v2 v3 v4 : Value} (h : DrI w C NT ND y T vp vs P S u) (hy : y.cells.toArray = #[v0, v1, v2, v3, v4]) {t0 t1 t2 t3 t4 : Value} (hy' : y'.cells.toArray = #[t0, t1, t2, t3, t4]) (hf : TreeD 8 u (fun b => w.heap.size < b ∧ b ≠ NT ∧ b ≠ ND) y' T') (ho : okT T' = true) : DrI w C NT ND y' T' vp vs P S (set5 u NT t0 t1 t2 t3 t4) := by
 have l := h.l
 have hc := chg_set5 u NT t0 t1 t2 t3 t4
 have ht := h.t
 rw [hy] at ht
 have hn := h.d.not ht (by decide) (by decide)
 refine ⟨h.c.chg hc (fun g (e : g = NT) => by omega), h.g.trans hc (fun g hg (e : g = NT) => by omega), row_chg h.r hc (fun (e : _ = NT) => by omega), by rw [hy']; exact ht.set5 _ _ _ _ _, row_chg h.x hc (fun (e : _ = NT) => by omega), h.d.chg hc (fun g hg (e : g = NT) => hn.1 (e ▸ hg)) (fun g hg (e : g = NT) => hn.2 (e ▸ hg)), hf.chg hc (fun g hg => hg.2.1), ho, h.p, h.l⟩
theorem DrI.disk {w : World} {C NT ND : Nat} {y : TV} {T : Tr} {vp vs vp' vs' : Value} {P P' : PgL} {S S' : SL} {u : World} (h : DrI w C NT ND y T vp vs P S u) (hd : DiskE u w.heap.size (.agg #[vp', vs']) P' S') (hp : DkN P' S') : DrI w C NT ND y T vp' vs' P' S' ((u.setCell ⟨ND, 0, none⟩ vp').setCell ⟨ND, 1, none⟩ vs') := by
 have l := h.l
 have hc : Chg (fun g => g = ND) u ((u.setCell ⟨ND, 0, none⟩ vp').setCell ⟨ND, 1, none⟩ vs') := ((Chg.refl (fun g => g = ND) _).setAt ND 0 rfl _).setAt ND 1 rfl _
 have hn := hd.not h.x (by decide) (by decide)
 exact ⟨h.c.chg hc (fun g (e : g = ND) => by omega), h.g.trans hc (fun g hg (e : g = ND) => by omega), row_chg h.r hc (fun (e : _ = ND) => by omega), h.t.chg hc (fun (e : _ = ND) => by omega), heap_setCell_same _ _ 1 _ _ vs' (heap_setCell_same u _ 0 _ _ vp' h.x), hd.chg hc (fun g hg (e : g = ND) => hn.1 (e ▸ hg)) (fun g hg (e : g = ND) => hn.2 (e ▸ hg)), h.f.chg hc (fun g hg => hg.2.2), h.ok, hp, h.l⟩
def DiskDrawn (C : Nat) (w : World) (e : Ending) (w' : World) : Prop := ∃ (v : Value) (P : PgL) (S : SL), e = .returned v ∧ DkN P S ∧ DiskE w' w.heap.size v P S ∧ Cur w' C ∧ Chg (fun b => b = C) w w'

theorem l6DrawRight_any (C : Nat) (v : Value) (bs : List Int) (w : World) (hc : Cur w C) (hcode : Code8 w v bs) (hn : bs.length ≤ 1048576) :
  Calls Try.prog 31 #[.pointer (some ⟨C, 0, none⟩), v] w (DiskDrawn C w) := by
 have hCw : C < w.heap.size := hc.lt
 have al := al1 w (.cells #[.slice none 0 0, .slice none 0 0] 27)
 have HD := hid (l2DrawRight_any C v bs (w.alloc (.cells #[.slice none 0 0, .slice none 0 0] 27)) (hc.alloc _) (hcode.below al) hn)
 have R0 := hid (heap_alloc_new w (.cells #[.slice none 0 0, .slice none 0 0] 27))
 have G0 : Hid (Chg (fun b => b = C) w (w.alloc (.cells #[.slice none 0 0, .slice none 0 0] 27))) := Chg.of_below al
 clear hc hcode hn al
 go_enter Try.func31, Try.ntmps31
 go_wp2_with fail
 refine Calls.mono HD.out ?_
 rintro e w2 ⟨y, T, rfl, hok, TD, c2, G2⟩
 have hs2 : w.heap.size + 1 ≤ w2.heap.size := by have := G2.size; simpa using this
 obtain ⟨ya1, ya2, ya3, ya4, yq1, yq2, yq3, yq4, hyy⟩ := TD.treeF.treeAt.shape
 subst hyy
 have al2 := al1 w2 (.cells #[.bool T.leaf, .slice ya1 T.pairs.length yq1, .slice ya2 T.cuts.length yq2, .slice ya3 T.kids.length yq3, .slice ya4 T.buf.length yq4] 54)
 have J2 : Hid (∀ W, W = w2.alloc (.cells #[.bool T.leaf, .slice ya1 T.pairs.length yq1, .slice ya2 T.cuts.length yq2, .slice ya3 T.kids.length yq3, .slice ya4 T.buf.length yq4] 54) → Cur W C ∧ Chg (fun b => b = C) w W ∧ W.heap[w.heap.size]? = some (.cells #[.slice none 0 0, .slice none 0 0] 27) ∧ OneAt W w2.heap.size #[.bool T.leaf, .slice ya1 T.pairs.length yq1, .slice ya2 T.cuts.length yq2, .slice ya3 T.kids.length yq3, .slice ya4 T.buf.length yq4] ∧ TreeD 8 W (fun b => w.heap.size < b ∧ b < w2.heap.size) (⟨T.leaf, .slice ya1 T.pairs.length yq1, .slice ya2 T.cuts.length yq2, .slice ya3 T.kids.length yq3, .slice ya4 T.buf.length yq4⟩ : TV) T) := by
  rintro W rfl
  exact ⟨c2.below al2, (G0.out.trans G2 (fun _ _ e => e)).alloc _, row_chg (row_chg R0.out G2 (fun (e : _ = C) => by omega)) (Chg.of_below (F := fun _ => False) al2) id, OneAt.start _ _, (TD.lt.below al2).mono (fun b hb => ⟨by have := hb.1; simp at this; omega, hb.2⟩)⟩
 have OK := hid hok
 clear TD c2 G2 al2 hok HD G0 R0
 generalize T.leaf = yl at *
 generalize T.pairs.length = yn1 at *
 generalize T.cuts.length = yn2 at *
 generalize T.kids.length = yn3 at *
 generalize T.buf.length = yn4 at *
 go_upto_region 2 with fail
 refine wp_gen (fun u => Cur u C ∧ Chg (fun b => b = C) w u ∧ u.heap[w.heap.size]? = some (.cells #[.slice none 0 0, .slice none 0 0] 27) ∧ OneAt u w2.heap.size #[.bool yl, .slice ya1 yn1 yq1, .slice ya2 yn2 yq2, .slice ya3 yn3 yq3, .slice ya4 yn4 yq4] ∧ TreeD 8 u (fun b => w.heap.size < b ∧ b < w2.heap.size) (⟨yl, .slice ya1 yn1 yq1, .slice ya2 yn2 yq2, .slice ya3 yn3 yq3, .slice ya4 yn4 yq4⟩ : TV) T) (J2.out _ rfl) ?_
 intro V hV
 have JV := hid hV
 have t0 : V.cell? ⟨w2.heap.size, 0, none⟩ = some (.bool yl) := (box_cells5 hV.2.2.2.1).1
 have t1 : V.cell? ⟨w2.heap.size, 1, none⟩ = some (.slice ya1 yn1 yq1) := (box_cells5 hV.2.2.2.1).2.1
 have t2 : V.cell? ⟨w2.heap.size, 2, none⟩ = some (.slice ya2 yn2 yq2) := (box_cells5 hV.2.2.2.1).2.2.1
 have t3 : V.cell? ⟨w2.heap.size, 3, none⟩ = some (.slice ya3 yn3 yq3) := (box_cells5 hV.2.2.2.1).2.2.2.1
 have t4 : V.cell? ⟨w2.heap.size, 4, none⟩ = some (.slice ya4 yn4 yq4) := (box_cells5 hV.2.2.2.1).2.2.2.2
 have HN := hid (specDiskNew_any (⟨yl, .slice ya1 yn1 yq1, .slice ya2 yn2 yq2, .slice ya3 yn3 yq3, .slice ya4 yn4 yq4⟩ : TV) T V hV.2.2.2.2.treeF.treeAt (Nat.le_trans (size_ok8 OK.out) (by decide)))
 have hV2 : w2.heap.size < V.heap.size := (Array.getElem?_eq_some_iff.1 hV.2.2.2.1).1
 clear hV J2
 go_wp2_with fail
 refine Calls.mono HN.out ?_
 rintro e w3 ⟨vd, P, S, okd, rfl, hpo, hps, hde, hb3⟩
 obtain ⟨pa1, pq1, pa2, pq2, hvd⟩ := hde.shape''
 subst hvd
 have al3 := al1 w3 (.cells #[.slice pa1 P.length pq1, .slice pa2 S.length pq2] 27)
 have hl3 := hb3.size
 have hVw : w.heap.size ≤ V.heap.size := JV.out.2.1.size
 have J3 : Hid (DrI w C w2.heap.size w3.heap.size (⟨yl, .slice ya1 yn1 yq1, .slice ya2 yn2 yq2, .slice ya3 yn3 yq3, .slice ya4 yn4 yq4⟩ : TV) T (.slice pa1 P.length pq1) (.slice pa2 S.length pq2) P S (w3.alloc (.cells #[.slice pa1 P.length pq1, .slice pa2 S.length pq2] 27))) := by
  obtain ⟨v1, v2, v3, v4, v5⟩ := JV.out
  have hb4 := Below.and hb3 al3
  exact ⟨v1.below hb4, v2.trans (Chg.of_below (F := fun b => b = C) hb4) (fun _ _ e => e), row_chg v3 (Chg.of_below (F := fun _ => False) hb4) id, v4.step hb4, heap_alloc_new _ _, (hde.mono hVw).chg (Chg.of_below (F := fun _ => False) al3) (fun _ _ e => e) (fun _ _ e => e), (v5.below hb4).mono (fun b hb => ⟨hb.1, by have := hb.2; omega, by have := hb.2; omega⟩), OK.out, ⟨hpo, hps⟩, hCw, by omega, by omega⟩
 clear hpo hps hde hb3 al3 hl3 hVw JV t0 t1 t2 t3 t4 HN hV2 OK
 go_upto_region 3 with fail
 refine wp_gen (fun u => DrI w C w2.heap.size w3.heap.size (⟨yl, .slice ya1 yn1 yq1, .slice ya2 yn2 yq2, .slice ya3 yn3 yq3, .slice ya4 yn4 yq4⟩ : TV) T (.slice pa1 P.length pq1) (.slice pa2 S.length pq2) P S u) J3.out ?_
 intro V3 hV3
 have JL := hid hV3
 clear hV3 J3
 have hlo : w.heap.size < w2.heap.size := by omega
 generalize w2.heap.size = NT at *
 generalize w3.heap.size = ND at *
 go_wp2_with fail
 go_loopw [8] (fun i wr => ∃ (j : Nat) (yl : Bool) (ya1 ya2 ya3 ya4 pa1 pa2 : Option Addr) (yn1 yn2 yn3 yn4 yq1 yq2 yq3 yq4 pn sn pq1 pq2 : Nat) (T : Tr) (P : PgL) (S : SL), i = .int .i64 j ∧ j ≤ 3 ∧ Hid (DrI w C NT ND (⟨yl, .slice ya1 yn1 yq1, .slice ya2 yn2 yq2, .slice ya3 yn3 yq3, .slice ya4 yn4 yq4⟩ : TV) T (.slice pa1 pn pq1) (.slice pa2 sn pq2) P S wr)) (fun i _ => 3 - (intOf i).toNat)
 case atStart => exact ⟨0, yl, ya1, ya2, ya3, ya4, pa1, pa2, yn1, yn2, yn3, yn4, yq1, yq2, yq3, yq4, _, _, pq1, pq2, T, P, S, rfl, Nat.zero_le _, JL.out⟩
 case round =>
  clear JL
  obtain ⟨j, yl, ya1, ya2, ya3, ya4, pa1, pa2, yn1, yn2, yn3, yn4, yq1, yq2, yq3, yq4, pn, sn, pq1, pq2, T, P, S, rfl, hj, J⟩ := hrel
  have HB := hid (l1Below_any C 3 wr J.out.c (by decide))
  go_wp2_with fail
  refine Calls.mono HB.out ?_
  rintro e w4 ⟨b, rfl, hb0, hb1, _, c4, G4⟩
  have hb3 := hb1 (by decide)
  have J4 := hid (J.out.turn G4 c4)
  clear J HB c4 G4 hb1
  by_cases hlt : (j : Int) < b
  ·go_wp2_with fail
   have HDR := hid (J4.out.low (Below.refl _ w4).drew)
   have hS : w4.drew.cell? ⟨NT, 0, none⟩ = some (.bool yl) ∧ w4.drew.cell? ⟨NT, 1, none⟩ = some (.slice ya1 yn1 yq1) ∧ w4.drew.cell? ⟨NT, 2, none⟩ = some (.slice ya2 yn2 yq2) ∧ w4.drew.cell? ⟨NT, 3, none⟩ = some (.slice ya3 yn3 yq3) ∧ w4.drew.cell? ⟨NT, 4, none⟩ = some (.slice ya4 yn4 yq4) := box_cells5 HDR.out.t
   clear J4
   refine wp_region_last (fun u => u.cell? ⟨NT, 0, none⟩ = some (.bool yl) ∧ u.cell? ⟨NT, 1, none⟩ = some (.slice ya1 yn1 yq1) ∧ u.cell? ⟨NT, 2, none⟩ = some (.slice ya2 yn2 yq2) ∧ u.cell? ⟨NT, 3, none⟩ = some (.slice ya3 yn3 yq3) ∧ u.cell? ⟨NT, 4, none⟩ = some (.slice ya4 yn4 yq4)) [_, _, _, _] _ rfl (by kernel_rfl) (by kernel_rfl) ?_
   generalize w4.drew = wd at *
   refine tq 0 rfl (by kernel_rfl) (fun _ _ _ h => h) (by assumption) rfl (by intro w h; go_simp <;> with_reducible rfl) ?_
   try simp only [Act.put, List.setIfInBounds_toArray, List.set_cons_zero, List.set_cons_succ]
   refine tq 1 rfl (by kernel_rfl) (fun _ _ _ h => h) (by assumption) rfl (by intro w h; go_simp <;> with_reducible rfl) ?_
   try simp only [Act.put, List.setIfInBounds_toArray, List.set_cons_zero, List.set_cons_succ]
   refine rq 2 (by kernel_rfl) rfl (fun K hK => ?_)
   refine step_func rfl 41 [.tmp 26] #[45] rfl run41 [.pointer (some ⟨C, 0, none⟩)] rfl (l1DrawMsg_any C wd HDR.out.c) ?_
   rintro e w5 ⟨mo, mk, mv, rfl, C5, G5⟩
   refine ⟨_, rfl, ?_⟩
   have J5 := hid (HDR.out.turn G5 C5)
   clear C5 G5 HDR
   refine hK.out _ _ (box_cells5 J5.out.t) (fun hH => ?_)
   clear hK K
   try simp only [Act.put, List.setIfInBounds_toArray, List.set_cons_zero, List.set_cons_succ]
   clear hH
   refine rq 3 (by kernel_rfl) rfl (fun K hK => ?_)
   refine step_func rfl 40 [.tmp 25, .tmp 27] #[54, 73] rfl run40 [.agg #[.bool yl, .slice ya1 yn1 yq1, .slice ya2 yn2 yq2, .slice ya3 yn3 yq3, .slice ya4 yn4 yq4], .agg #[.int .i64 mo, .int .i64 mk, .int .i64 mv]] rfl (specInject_any 8 (⟨yl, .slice ya1 yn1 yq1, .slice ya2 yn2 yq2, .slice ya3 yn3 yq3, .slice ya4 yn4 yq4⟩ : TV) T mo mk mv w5 J5.out.f.treeF.treeAt (Nat.le_trans (size_ok8 J5.out.ok) (by decide))) ?_
   rintro e w6 ⟨y', N6, rfl, TD6, hb6⟩
   have OK6 := injF_ok J5.out.ok (mo, mk, mv)
   have TE6 := TD6.ok8 OK6
   obtain ⟨ra1, ra2, ra3, ra4, rq1, rq2, rq3, rq4, hyr⟩ := (TE6.treeF.treeAt).shape
   subst hyr
   refine ⟨_, rfl, ?_⟩
   have J6 := hid (J5.out.low hb6)
   have F6 := hid (TE6.mono (G := fun b => w.heap.size < b ∧ b ≠ NT ∧ b ≠ ND) (fun g hg => by have h1 := J5.out.lt; have h2 := J5.out.l; refine ⟨?_, ?_, ?_⟩ <;> omega))
   have OKH := hid OK6
   clear TD6 TE6 hb6 J5 OK6
   generalize injF T (mo, mk, mv) = T6 at *
   generalize (T6).leaf = rl at *
   generalize (T6).pairs.length = rn1 at *
   generalize (T6).cuts.length = rn2 at *
   generalize (T6).kids.length = rn3 at *
   generalize (T6).buf.length = rn4 at *
   refine hK.out _ _ (box_cells5 J6.out.t) (fun hH => ?_)
   clear hK K
   try simp only [Act.put, List.setIfInBounds_toArray, List.set_cons_zero, List.set_cons_succ]
   clear hH
   obtain ⟨⟨m0, m1, m2, m3, m4⟩, k0, k1, k2, k3, k4⟩ := box_all5 J6.out.t
   have J7 := hid (J6.out.tree (y' := (⟨rl, .slice ra1 rn1 rq1, .slice ra2 rn2 rq2, .slice ra3 rn3 rq3, .slice ra4 rn4 rq4⟩ : TV)) rfl rfl F6.out OKH.out)
   clear J6 F6 OKH
   refine wpAnyH_done (by kernel_rfl) ?_ _
   show Oper.wp _ _ _ _ _ _
   go_simp
   go_upto_region 7 with fail
   refine wp_gen (fun u => DrI w C NT ND (⟨rl, .slice ra1 rn1 rq1, .slice ra2 rn2 rq2, .slice ra3 rn3 rq3, .slice ra4 rn4 rq4⟩ : TV) T6 (.slice pa1 pn pq1) (.slice pa2 sn pq2) P S u) (by have := J7.out; unfold set5 at this; exact this) ?_
   intro V7 hV7
   have J8 := hid hV7
   have t0 : V7.cell? ⟨NT, 0, none⟩ = some (.bool rl) := (box_cells5 hV7.t).1
   have t1 : V7.cell? ⟨NT, 1, none⟩ = some (.slice ra1 rn1 rq1) := (box_cells5 hV7.t).2.1
   have t2 : V7.cell? ⟨NT, 2, none⟩ = some (.slice ra2 rn2 rq2) := (box_cells5 hV7.t).2.2.1
   have t3 : V7.cell? ⟨NT, 3, none⟩ = some (.slice ra3 rn3 rq3) := (box_cells5 hV7.t).2.2.2.1
   have t4 : V7.cell? ⟨NT, 4, none⟩ = some (.slice ra4 rn4 rq4) := (box_cells5 hV7.t).2.2.2.2
   have d0 : V7.cell? ⟨ND, 0, none⟩ = some (.slice pa1 pn pq1) := cell_of_cells hV7.x
   have d1 : V7.cell? ⟨ND, 1, none⟩ = some (.slice pa2 sn pq2) := cell_of_cells hV7.x
   have HP := hid (specPlan_any (⟨rl, .slice ra1 rn1 rq1, .slice ra2 rn2 rq2, .slice ra3 rn3 rq3, .slice ra4 rn4 rq4⟩ : TV) T6 (.slice pa1 pn pq1) (.slice pa2 sn pq2) P S hV7.p.1 V7 hV7.d.row.1 hV7.d.row.2 hV7.f.treeF.treeAt (Nat.le_trans (size_ok8 hV7.ok) (by decide)))
   clear hV7 J7 m0 m1 m2 m3 m4 k0 k1 k2 k3 k4
   go_wp2_with fail
   refine Calls.mono HP.out ?_
   rintro e w8 ⟨vl, ok, rfl, hl, hb8⟩
   have J9 := hid (J8.out.low hb8)
   obtain ⟨va, vn, vq, hv⟩ := hl.slice
   subst hv
   clear t0 t1 t2 t3 t4 d0 d1 HP J8 hb8
   cases ok with
   | false =>
    go_wp2
    go_roundw
    case rel => exact ⟨j + 1, rl, ra1, ra2, ra3, ra4, pa1, pa2, rn1, rn2, rn3, rn4, rq1, rq2, rq3, rq4, pn, sn, pq1, pq2, T6, P, S, by go_num, by omega, J9.out⟩
    case measure => simp [intOf]; omega
   | true =>
    obtain ⟨l3, hl3, hok3, h3⟩ := hl
    obtain ⟨va', vq', hv'⟩ := h3.slice
    injection hv' with e1 e2 e3
    subst e1 e2 e3
    have PL : P.length ≤ 1048576 := Nat.le_trans J9.out.p.1.1 (by decide)
    have SL' : S.length ≤ 1048576 := by rcases J9.out.p.2 with h | h <;> omega
    have u5 : ∀ x ∈ l3, -9223372036854775808 ≤ x.1 ∧ x.1 ≤ 9223372036854775807 := fun x hx => (hok3 x hx).1
    have PD := hid (specDo_any (.agg #[.slice pa1 pn pq1, .slice pa2 sn pq2]) P S (.slice va l3.length vq) l3 w8 ⟨_, _, rfl, J9.out.d.row⟩ h3.rowN' PL SL' u5)
    have DN2 : Hid (DkN (dkP P l3) (dkS S l3)) := ⟨dkP_ok l3 J9.out.p.1 hok3, by rw [dkP_length, dkS_length]; exact J9.out.p.2⟩
    have d0 : w8.cell? ⟨ND, 0, none⟩ = some (.slice pa1 pn pq1) := cell_of_cells J9.out.x
    have d1 : w8.cell? ⟨ND, 1, none⟩ = some (.slice pa2 sn pq2) := cell_of_cells J9.out.x
    clear PL SL' u5 h3 hok3
    go_wp2_with fail
    refine Calls.mono PD.out ?_
    rintro e w9 ⟨v2, rfl, o2, hb9⟩
    have hw8 : w.heap.size ≤ w8.heap.size := J9.out.g.size
    have JA := hid (J9.out.low hb9)
    obtain ⟨x1, y1, x2, y2, hv2⟩ := o2.shape''
    subst hv2
    have f0 : w9.frozen? ⟨ND, 0, none⟩ = false := frozen_of_cells JA.out.x
    have f1 : w9.frozen? ⟨ND, 1, none⟩ = false := frozen_of_cells JA.out.x
    have e0 : w9.cell? ⟨ND, 0, none⟩ = some (.slice pa1 pn pq1) := cell_of_cells JA.out.x
    have e1 : w9.cell? ⟨ND, 1, none⟩ = some (.slice pa2 sn pq2) := cell_of_cells JA.out.x
    have JB := hid (JA.out.disk (o2.mono hw8) DN2.out)
    clear d0 d1 o2 hb9 J9 JA PD
    generalize dkP P l3 = P2 at *
    generalize dkS S l3 = S2 at *
    go_wp2
    go_roundw
    case rel => exact ⟨j + 1, rl, ra1, ra2, ra3, ra4, x1, x2, rn1, rn2, rn3, rn4, rq1, rq2, rq3, rq4, _, _, y1, y2, T6, P2, S2, by go_num, by omega, JB.out⟩
    case measure => simp [intOf]; omega
  ·have d0 : w4.cell? ⟨ND, 0, none⟩ = some (.slice pa1 pn pq1) := cell_of_cells J4.out.x
   have d1 : w4.cell? ⟨ND, 1, none⟩ = some (.slice pa2 sn pq2) := cell_of_cells J4.out.x
   have r0 : w4.cell? ⟨w.heap.size, 0, none⟩ = some (.slice none 0 0) := cell_of_cells J4.out.r
   have r1 : w4.cell? ⟨w.heap.size, 1, none⟩ = some (.slice none 0 0) := cell_of_cells J4.out.r
   have f0 : w4.frozen? ⟨w.heap.size, 0, none⟩ = false := frozen_of_cells J4.out.r
   have f1 : w4.frozen? ⟨w.heap.size, 1, none⟩ = false := frozen_of_cells J4.out.r
   have R2 := heap_setCell_same _ _ 1 _ _ (.slice pa2 sn pq2) (heap_setCell_same w4 _ 0 _ _ (.slice pa1 pn pq1) J4.out.r)
   have n0 : ((w4.setCell ⟨w.heap.size, 0, none⟩ (.slice pa1 pn pq1)).setCell ⟨w.heap.size, 1, none⟩ (.slice pa2 sn pq2)).cell? ⟨w.heap.size, 0, none⟩ = some (.slice pa1 pn pq1) := cell_of_cells R2
   have n1 : ((w4.setCell ⟨w.heap.size, 0, none⟩ (.slice pa1 pn pq1)).setCell ⟨w.heap.size, 1, none⟩ (.slice pa2 sn pq2)).cell? ⟨w.heap.size, 1, none⟩ = some (.slice pa2 sn pq2) := cell_of_cells R2
   have FIN : Hid (DkN P S ∧ DiskE ((w4.setCell ⟨w.heap.size, 0, none⟩ (.slice pa1 pn pq1)).setCell ⟨w.heap.size, 1, none⟩ (.slice pa2 sn pq2)) w.heap.size (.agg #[.slice pa1 pn pq1, .slice pa2 sn pq2]) P S ∧ Cur ((w4.setCell ⟨w.heap.size, 0, none⟩ (.slice pa1 pn pq1)).setCell ⟨w.heap.size, 1, none⟩ (.slice pa2 sn pq2)) C ∧ Chg (fun b => b = C) w ((w4.setCell ⟨w.heap.size, 0, none⟩ (.slice pa1 pn pq1)).setCell ⟨w.heap.size, 1, none⟩ (.slice pa2 sn pq2))) := by
    have ch : Chg (fun g => g = w.heap.size) w4 ((w4.setCell ⟨w.heap.size, 0, none⟩ (.slice pa1 pn pq1)).setCell ⟨w.heap.size, 1, none⟩ (.slice pa2 sn pq2)) := ((Chg.refl (fun g => g = w.heap.size) _).setAt w.heap.size 0 rfl _).setAt w.heap.size 1 rfl _
    have hn := J4.out.d.not J4.out.r (by decide) (by decide)
    exact ⟨J4.out.p, J4.out.d.chg ch (fun g hg (e : g = w.heap.size) => hn.1 (e ▸ hg)) (fun g hg (e : g = w.heap.size) => hn.2 (e ▸ hg)), J4.out.c.chg ch (fun g (e : g = w.heap.size) => by omega), J4.out.g.trans ch (fun g hg (e : g = w.heap.size) => by omega)⟩
   clear R2 J4
   go_wp2
   refine bodyPost_ret (v := .agg #[.slice pa1 pn pq1, .slice pa2 sn pq2]) (by simp [results, Try.results31, go_sem, n0, n1]) rfl ⟨_, P, S, rfl, FIN.out⟩
end
section
open Go.RowKit

theorem OwnE.block {w : World} {base e size n : Nat} {v : Value} {xs : List Value} (h : OwnE w base e size v n xs) : ∀ g, wrB v g → ∃ cur, w.heap[g]? = some (.cells cur e (0, 0)) := by
 rintro g ⟨k, cap, rfl, hc⟩
 rcases h with h | ⟨_, _, g', hg⟩
 ·obtain ⟨_, ⟨h1, _⟩ | ⟨g', cap', cur, h1, hg, hh, _⟩⟩ := h
  ·simp at h1
  ·simp at h1
   rw [← h1.1] at hh
   exact ⟨cur, hh⟩
 ·simp at hg
  omega
theorem OwnE.apart {w : World} {b1 b2 e1 e2 s1 s2 n1 n2 : Nat} {v1 v2 : Value} {x1 x2 : List Value} (h1 : OwnE w b1 e1 s1 v1 n1 x1) (h2 : OwnE w b2 e2 s2 v2 n2 x2) (he : e1 ≠ e2) : ∀ g, wrB v1 g → ¬ wrB v2 g := by
 intro g k1 k2
 obtain ⟨c1, j1⟩ := h1.block g k1
 obtain ⟨c2, j2⟩ := h2.block g k2
 rw [j1] at j2
 simp at j2
 exact he j2.2
theorem OwnE.store {w : World} {base e size n g cap : Nat} {xs : List Value} (h : OwnE w base e size (.slice (some ⟨g, 0, none⟩) n cap) n xs) (hc : 0 < cap) (i : Nat) (u : Value) : OwnE (w.setCell ⟨g, i, none⟩ u) base e size (.slice (some ⟨g, 0, none⟩) n cap) n (xs.set i u) := by
 rcases h with h | ⟨_, _, g', hg⟩
 ·obtain ⟨hl, ⟨h1, _⟩ | ⟨g', cap', cur, h1, hg, hh, hn, hcap, hsz, htake⟩⟩ := h
  ·simp at h1
  ·simp at h1
   obtain ⟨rfl, rfl⟩ := h1
   refine .inl ⟨by simpa using hl, .inr ⟨g, cap, cur.setIfInBounds i u, rfl, hg, heap_setCell_same w g i cur e u hh, hn, hcap, by simpa using hsz, ?_⟩⟩
   rw [Array.toList_setIfInBounds, List.take_set, htake]
 ·simp at hg
  omega
theorem OwnE.cell {w : World} {base e size n g cap : Nat} {xs : List Value} (h : OwnE w base e size (.slice (some ⟨g, 0, none⟩) n cap) n xs) (i : Nat) (u : Value) (hu : xs[i]? = some u) : w.cell? ⟨g, i, none⟩ = some u ∧ w.frozen? ⟨g, i, none⟩ = false := by
 rcases h with h | ⟨_, h2, _⟩
 ·obtain ⟨hl, ⟨h1, _⟩ | ⟨g', cap', cur, h1, hg, hh, hn, hcap, hsz, htake⟩⟩ := h
  ·simp at h1
  ·simp at h1
   obtain ⟨rfl, rfl⟩ := h1
   refine ⟨?_, frozen_of_row w g i cur e hh⟩
   rw [cell_of_row w g i cur e (0, 0) hh, ← hu, ← htake, ← Array.getElem?_toList]
   have hi : i < xs.length := (List.getElem?_eq_some_iff.1 hu).1
   rw [List.getElem?_take_of_lt (by omega)]
 ·rw [h2] at hu
  simp at hu
theorem OwnE.pos {w : World} {base e size n : Nat} {v : Value} {xs : List Value} (h : OwnE w base e size v n xs) (hn : 0 < n) : ∃ g cap, v = .slice (some ⟨g, 0, none⟩) n cap ∧ 0 < cap ∧ n ≤ cap := by
 rcases h with h | ⟨h, _⟩
 ·obtain ⟨g, cap, h1, h2, h3⟩ := h.form hn
  refine ⟨g, cap, h1, ?_, ?_⟩
  ·obtain ⟨_, ⟨k1, _⟩ | ⟨g', cap', cur, k1, _, _, k4, _⟩⟩ := h
   ·rw [h1] at k1; simp at k1
   ·rw [h1] at k1; simp at k1; omega
  ·obtain ⟨_, ⟨k1, _⟩ | ⟨g', cap', cur, k1, _, _, k4, _⟩⟩ := h
   ·rw [h1] at k1; simp at k1
   ·rw [h1] at k1; simp at k1; omega
 ·omega

variable {n : Nat} {w w' : World} {F : Nat → Prop} {lf : Bool} {p c k b : Value} {T : Tr}

theorem TreeD.rows {P : Nat → Prop} (h : TreeD (n + 1) w F ⟨lf, p, c, k, b⟩ T) (hc : Chg P w w') :
  ((∀ g, wrB p g → ¬ P g) → RowF w' F p T.pairs.length (flatP T.pairs)) ∧ ((∀ g, wrB c g → ¬ P g) → RowF w' F c T.cuts.length (flatI T.cuts)) ∧ ((∀ g, wrB b g → ¬ P g) → RowF w' F b T.buf.length (flatM T.buf)) ∧
  ((∀ g, P g → (wrB p g ∨ wrB c g ∨ wrB b g ∨ wrB k g) ∨ ¬ F g) → (∀ g, wrB k g → ¬ P g) → TreesF n w' F k T.kids) := by
 obtain ⟨h1, h2, h3, h4, h5, xs, K, k1, k2, k3, k4, k5⟩ := h
 simp only at h1 h2 h3 h4 h5 k2 k4
 refine ⟨fun hp => ((h2.chg hc hp).rowF).mono (fun g hg => h5 g (.inl hg)), fun hp => ((h3.chg hc hp).rowF).mono (fun g hg => h5 g (.inr (.inl hg))), fun hp => ((h4.chg hc hp).rowF).mono (fun g hg => h5 g (.inr (.inr (.inl hg)))), fun hP hp => ⟨xs, k1, ((k2.chg hc hp).rowF).mono (fun g hg => h5 g (.inr (.inr (.inr hg)))), fun i hi => ?_⟩⟩
 refine ((k3 i hi).treeF.chg hc (fun g hg hPg => ?_)).mono (fun g hg => (k4 i g hi hg).1)
 rcases hP g hPg with h | h
 ·exact (k4 i g hi hg).2 h
 ·exact h (k4 i g hi hg).1

theorem mar_buf {m : Int × Int × Int} {b' : Value} (h : TreeD (n + 1) w F ⟨lf, p, c, k, b⟩ T) (ha : AppTo w 0 73 3 b (T.buf.length + 1) (flatM T.buf ++ flatM [m]) b' w') :
  TreeF (n + 1) w' (fun g => F g ∨ w.heap.size ≤ g) ⟨lf, p, c, k, b'⟩ { T with buf := T.buf ++ [m] } := by
 obtain ⟨r1, r2, _, r4⟩ := h.rows ha.2.1
 obtain ⟨h1, h2, h3, h4, h5, xs, K, k1, k2, k3, k4, k5⟩ := h
 refine TreeF.mk h1 ((r1 (h2.apart h4 (by decide))).mono (fun g hg => .inl hg)) ((r2 (h3.apart h4 (by decide))).mono (fun g hg => .inl hg)) ?_ ((r4 (fun g hg => .inl (.inr (.inr (.inl hg)))) (k2.apart h4 (by decide))).mono (fun g hg => .inl hg))
 have := ha.1.rowF.mono (G := fun g => F g ∨ w.heap.size ≤ g) (fun g hg => (ha.2.2.2 g hg).imp (fun h => h5 g (.inr (.inr (.inl h)))) id)
 rw [← flatM_append] at this
 simpa using this
theorem mar_pairs {m : Int × Int} {p' : Value} (h : TreeD (n + 1) w F ⟨lf, p, c, k, b⟩ T) (ha : AppTo w 0 76 2 p (T.pairs.length + 1) (flatP T.pairs ++ flatP [m]) p' w') :
  TreeF (n + 1) w' (fun g => F g ∨ w.heap.size ≤ g) ⟨lf, p', c, k, b⟩ { T with pairs := T.pairs ++ [m] } := by
 obtain ⟨_, r2, r3, r4⟩ := h.rows ha.2.1
 obtain ⟨h1, h2, h3, h4, h5, xs, K, k1, k2, k3, k4, k5⟩ := h
 refine TreeF.mk h1 ?_ ((r2 (h3.apart h2 (by decide))).mono (fun g hg => .inl hg)) ((r3 (h4.apart h2 (by decide))).mono (fun g hg => .inl hg)) ((r4 (fun g hg => .inl (.inl hg)) (k2.apart h2 (by decide))).mono (fun g hg => .inl hg))
 have := ha.1.rowF.mono (G := fun g => F g ∨ w.heap.size ≤ g) (fun g hg => (ha.2.2.2 g hg).imp (fun h => h5 g (.inl h)) id)
 rw [← flatP_append] at this
 simpa using this
theorem wrB_is {g cap m : Nat} (hc : 0 < cap) : ∀ g', wrB (.slice (some ⟨g, 0, none⟩) m cap) g' ↔ g' = g := fun g' => ⟨fun ⟨_, _, h, _⟩ => by simp at h; exact h.1.symm, fun h => h ▸ ⟨_, _, rfl, hc⟩⟩
theorem mar_cut {g cap : Nat} (x : Int) (h : TreeD (n + 1) w F ⟨lf, p, .slice (some ⟨g, 0, none⟩) T.cuts.length cap, k, b⟩ T) (hcap : 0 < cap) :
  TreeF (n + 1) (w.setCell ⟨g, 0, none⟩ (.int .i64 x)) F ⟨lf, p, .slice (some ⟨g, 0, none⟩) T.cuts.length cap, k, b⟩ { T with cuts := T.cuts.set 0 x } := by
 have hc := chg_set1 w g 0 (.int .i64 x)
 obtain ⟨r1, _, r3, r4⟩ := h.rows hc
 obtain ⟨h1, h2, h3, h4, h5, xs, K, k1, k2, k3, k4, k5⟩ := h
 have hw : ∀ g', g' = g → wrB (.slice (some ⟨g, 0, none⟩) T.cuts.length cap) g' := fun g' e => (wrB_is hcap g').2 e
 refine TreeF.mk h1 (r1 (fun g' hg e => h2.apart h3 (by decide) g' hg (hw g' e))) ?_ (r3 (fun g' hg e => h4.apart h3 (by decide) g' hg (hw g' e))) (r4 (fun g' e => .inl (.inr (.inl (hw g' e)))) (fun g' hg e => k2.apart h3 (by decide) g' hg (hw g' e)))
 have := (h3.store hcap 0 (.int .i64 x)).rowF.mono (G := F) (fun g' hg => h5 g' (.inr (.inl hg)))
 rw [show (flatI T.cuts).set 0 (.int .i64 x) = flatI (T.cuts.set 0 x) by simp [flatI, List.map_set]] at this
 simpa using this
theorem mar_kid {g cap : Nat} {y : TV} {U : Tr} {F' : Nat → Prop} (h : TreeD (n + 1) w F ⟨lf, p, c, .slice (some ⟨g, 0, none⟩) T.kids.length cap, b⟩ T) (hcap : 0 < cap) (hk : 0 < T.kids.length) (hy : TreeF n w F' y U) (hF : ¬ F' g) :
  TreeF (n + 1) (set5 w g (.bool y.lf) y.p y.c y.k y.b) (fun g => F g ∨ F' g) ⟨lf, p, c, .slice (some ⟨g, 0, none⟩) T.kids.length cap, b⟩ { T with kids := T.kids.set 0 U } := by
 have hc := chg_set5 w g (.bool y.lf) y.p y.c y.k y.b
 obtain ⟨r1, r2, r3, _⟩ := h.rows hc
 obtain ⟨h1, h2, h3, h4, h5, xs, K, k1, k2, k3, k4, k5⟩ := h
 simp only at h1 h2 h3 h4 h5 k2 k4
 have hw : ∀ g', g' = g → wrB (.slice (some ⟨g, 0, none⟩) T.kids.length cap) g' := fun g' e => (wrB_is hcap g').2 e
 rw [k1] at k2
 refine TreeF.mk h1 ((r1 (fun g' hg e => h2.apart k2 (by decide) g' hg (hw g' e))).mono (fun g hg => .inl hg)) ((r2 (fun g' hg e => h3.apart k2 (by decide) g' hg (hw g' e))).mono (fun g hg => .inl hg)) ((r3 (fun g' hg e => h4.apart k2 (by decide) g' hg (hw g' e))).mono (fun g hg => .inl hg)) ⟨xs.set 0 y, by simp [k1], ?_, fun i hi => ?_⟩
 ·have := (((((k2.store hcap 0 (.bool y.lf)).store hcap 1 y.p).store hcap 2 y.c).store hcap 3 y.k).store hcap 4 y.b).rowF.mono (G := fun g => F g ∨ F' g) (fun g' hg => .inl (h5 g' (.inr (.inr (.inr hg)))))
  have e := flatT_set xs y 0 (by omega)
  simp only [Nat.zero_mul, Nat.zero_add] at e
  rw [e] at this
  simpa [k1] using this
 ·rw [List.length_set] at hi
  rcases Nat.eq_zero_or_pos i with h0 | h0
  ·subst h0
   have e1 : tvAt (xs.set 0 y) 0 = y := by simp [tvAt, List.getD, hi]
   have e2 : (T.kids.set 0 U).getD 0 noTr = U := by simp [List.getD, hk]
   rw [e1, e2]
   exact (hy.chg hc (fun g' hg e => hF (e ▸ hg))).mono (fun g hg => .inr hg)
  ·have e1 : tvAt (xs.set 0 y) i = tvAt xs i := by simp [tvAt, List.getD, List.getElem?_set_ne (by omega : (0 : Nat) ≠ i)]
   have e2 : (T.kids.set 0 U).getD i noTr = T.kids.getD i noTr := by simp [List.getD, List.getElem?_set_ne (by omega : (0 : Nat) ≠ i)]
   rw [e1, e2]
   refine ((k3 i hi).treeF.chg hc (fun g' hg e => ?_)).mono (fun g hg => .inl (k4 i g hi hg).1)
   exact (k4 i g' hi hg).2 (.inr (.inr (.inr (hw g' e))))
theorem mar_leaf (h : TreeD (n + 1) w F ⟨lf, p, c, k, b⟩ T) (hc : Chg (fun g => ¬ F g) w w') : TreeF (n + 1) w' F ⟨!lf, p, c, k, b⟩ { T with leaf := !T.leaf } := by
 obtain ⟨h1, h2, h3, h4, h5⟩ := (h.treeF.chg hc (fun g hg k => k hg)).parts
 simp only at h1 h2 h3 h4 h5
 exact TreeF.mk (by simp [h1]) h2 h3 h4 h5

theorem sum_set0 (f : Tr → Nat) (U : Tr) : ∀ l : List Tr, ((l.set 0 U).map f).sum ≤ (l.map f).sum + f U
 | [] => by simp
 | t :: l => by simp; omega

theorem size_buf (n : Nat) (T : Tr) (m : Int × Int × Int) : sizeT (n + 1) { T with buf := T.buf ++ [m] } = sizeT (n + 1) T + 1 := by
 simp only [sizeT, List.length_append, List.length_cons, List.length_nil]; omega
theorem size_pairs (n : Nat) (T : Tr) (m : Int × Int) : sizeT (n + 1) { T with pairs := T.pairs ++ [m] } = sizeT (n + 1) T + 1 := by
 simp only [sizeT, List.length_append, List.length_cons, List.length_nil]; omega
theorem size_cut (n : Nat) (T : Tr) (x : Int) : sizeT (n + 1) { T with cuts := T.cuts.set 0 x } = sizeT (n + 1) T := by
 simp only [sizeT, List.length_set]
theorem size_kid0 (n : Nat) (T U : Tr) : sizeT (n + 1) { T with kids := T.kids.set 0 U } ≤ sizeT (n + 1) T + sizeT n U := by
 have := sum_set0 (sizeT n) U T.kids
 simp only [sizeT, List.length_set]
 omega
end
section
open Go.RowKit

theorem run18 (args : Array Value) (w : World) : (callFunc 18 args).run Try.prog w = .ok (.enter 18 args) w := by go_simp
theorem run33 (args : Array Value) (w : World) : (callFunc 33 args).run Try.prog w = .ok (.enter 33 args) w := by go_simp
theorem run34 (args : Array Value) (w : World) : (callFunc 34 args).run Try.prog w = .ok (.enter 34 args) w := by go_simp
end
end Go.Proofs.Ytekcnibohikmdaa
