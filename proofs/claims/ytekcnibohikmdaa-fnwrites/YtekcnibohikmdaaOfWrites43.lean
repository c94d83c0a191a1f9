/-
  The model's DrawDo and DrawSome.
-/
import Derived.Test.YtekcnibohikmdaaOfWrites42
namespace Go.Proofs.Ytekcnibohikmdaa
set_option maxRecDepth 100000
set_option maxHeartbeats 8000000
section
open Go.RowKit

theorem Try.infoB : (Try.prog.info? 4).map (fun i => (i.zero, i.size, i.bytes)) = some (some (.bool false), 1, 1) := by kernel_rfl

theorem drawDo_any (v : Value) (bs : List Int) (w : World) (hcode : Code8 w v bs) (hn : bs.length ≤ 1048576) :
  Calls Try.prog 5 #[v] w (WritesDrawn w) := by
 have a1 := al1 w (.cells #[.slice none 0 0, .slice none 0 0] 27)
 have HD := hid (l6DrawWrites_any v bs (w.alloc (.cells #[.slice none 0 0, .slice none 0 0] 27)) (hcode.below a1) hn)
 have A1 := hid a1
 have R0 := hid (heap_alloc_new w (.cells #[.slice none 0 0, .slice none 0 0] 27))
 clear hcode hn a1
 go_enter Try.func5, Try.ntmps5
 go_wp2_with fail
 refine Calls.mono HD.out ?_
 rintro e w1 ⟨vd, vl, P, S, rfl, hp, de, hl, b1⟩
 obtain ⟨pa1, pq1, pa2, pq2, hvd⟩ := de.shape''
 subst hvd
 obtain ⟨va, vn, vq, hv⟩ := hl.slice
 subst hv
 have bx := al1 w1 (.cells #[.slice pa1 P.length pq1, .slice pa2 S.length pq2] 27)
 have J0 : DwI w w1.heap.size (.slice pa1 P.length pq1) (.slice pa2 S.length pq2) P S (w1.alloc (.cells #[.slice pa1 P.length pq1, .slice pa2 S.length pq2] 27)) := by
  have hb := Below.and b1 bx
  exact ⟨Below.and A1.out hb, row_chg R0.out (Chg.of_below (F := fun _ => False) hb) id, heap_alloc_new _ _, (de.mono (by simp)).chg (Chg.of_below (F := fun _ => False) bx) (fun _ _ e => e) (fun _ _ e => e)⟩
 have L0 := (hl.below bx).base (B' := w.heap.size + 1) (by simp)
 have HP := hid hp
 have JL := hid (And.intro J0 L0)
 clear hp de hl b1 bx HD A1 R0 J0 L0
 generalize P.length = pn at *
 generalize S.length = sn at *
 generalize hX : w1.heap.size = X at *
 generalize hW : w1.alloc (.cells #[.slice pa1 pn pq1, .slice pa2 sn pq2] 27) = W at *
 have HW := hid hW
 have HX := hid hX
 clear hW hX
 go_upto_region 2 with fail
 rw [HW.out, HX.out]
 obtain ⟨⟨d0, d1⟩, ⟨r0, r1, f0, f1⟩, ⟨n0, n1⟩, ch, fin⟩ := JL.out.1.fin
 have FIN := hid (And.intro fin ((JL.out.2.chg ch (fun g hg (e : g = w.heap.size) => by obtain ⟨l4, _, _, h4⟩ := JL.out.2; have h1 := (h4.lt g hg).1; omega)).base (B' := w.heap.size) (by omega)))
 clear ch fin
 go_wp2
 refine bodyPost_ret (v := .tuple #[.agg #[.slice pa1 pn pq1, .slice pa2 sn pq2], .slice va vn vq]) (by simp [results, Try.results5, go_sem, n0, n1]) rfl ⟨_, _, P, S, rfl, HP.out, FIN.out.1.1, FIN.out.2, FIN.out.1.2⟩

def SomeDrawn (w : World) (e : Ending) (w' : World) : Prop := ∃ (v vl vb : Value) (P : PgL) (S : SL) (bs : List Bool), e = .returned (.tuple #[v, vl, vb]) ∧ DkS P S ∧ DiskE w' w.heap.size v P S ∧ Lst w' w.heap.size vl 1000003 ∧ OwnE w' w.heap.size 4 1 vb bs.length (flatL bs) ∧ bs.length ≤ 1000010 ∧ Below w.heap.size w w'
theorem flatL_one (l : List Bool) : ∀ y ∈ flatL l, y.oneCell' = true := by
 intro v hv
 obtain ⟨z, _, rfl⟩ := List.mem_map.1 hv
 rfl
structure DsI (w : World) (X C : Nat) (vp vs : Value) (P : PgL) (S : SL) (vl vb : Value) (bs : List Bool) (u : World) : Prop where
 j : DwI w X vp vs P S u
 c : Cur u C
 li : Lst u (w.heap.size + 1) vl 1000003
 o : OwnE u (C + 1) 4 1 vb bs.length (flatL bs)
 lo : ∀ g, wrB vp g ∨ wrB vs g ∨ wrB vl g → g < C
 l : w.heap.size < X ∧ X < C
theorem DsI.high {w : World} {X C : Nat} {vp vs vl vb : Value} {P : PgL} {S : SL} {bs : List Bool} {u u' : World} (h : DsI w X C vp vs P S vl vb bs u) (hc : Chg (fun b => C ≤ b) u u') (hu : Cur u' C) {vb' : Value} {bs' : List Bool} (ho : OwnE u' (C + 1) 4 1 vb' bs'.length (flatL bs')) : DsI w X C vp vs P S vl vb' bs' u' := by
 have l := h.l
 exact ⟨⟨h.j.b.trans (hc.below (fun g _ e => by omega) h.j.b.size), row_chg h.j.r hc (by omega), row_chg h.j.x hc (by omega), h.j.d.chg hc (fun g hg e => by have := h.lo g (.inl hg); omega) (fun g hg e => by have := h.lo g (.inr (.inl hg)); omega)⟩, hu, h.li.chg hc (fun g hg e => by have := h.lo g (.inr (.inr hg)); omega), ho, h.lo, l⟩
theorem DsI.turn {w : World} {X C : Nat} {vp vs vl vb : Value} {P : PgL} {S : SL} {bs : List Bool} {u u' : World} (h : DsI w X C vp vs P S vl vb bs u) (hc : Chg (fun b => b = C) u u') (hu : Cur u' C) : DsI w X C vp vs P S vl vb bs u' :=
 h.high (hc.mono (fun g _ (e : g = C) => Nat.le_of_eq e.symm)) hu (h.o.chg hc (fun g hg (e : g = C) => by have := (h.o.lt g hg).1; omega))

theorem drawSome_any (v : Value) (bs : List Int) (w : World) (hcode : Code8 w v bs) (hn : bs.length ≤ 1048576) :
  Calls Try.prog 8 #[v] w (SomeDrawn w) := by
 obtain ⟨i0, hi, hz0, hz1, hz2⟩ := info_parts Try.infoB
 have CODE := hid (fun (u : World) (h : Below w.heap.size w u) => hcode.below h)
 have HN := hid hn
 have a1 := al1 w (.cells #[.slice none 0 0, .slice none 0 0] 27)
 have HD := hid (l6DrawWrites_any v bs (w.alloc (.cells #[.slice none 0 0, .slice none 0 0] 27)) (hcode.below a1) hn)
 have A1 := hid a1
 have R0 := hid (heap_alloc_new w (.cells #[.slice none 0 0, .slice none 0 0] 27))
 clear hcode hn a1
 go_enter Try.func8, Try.ntmps8
 go_wp2_with fail
 refine Calls.mono HD.out ?_
 rintro e w1 ⟨vd, vl, P, S, rfl, hp, de, hl, b1⟩
 obtain ⟨pa1, pq1, pa2, pq2, hvd⟩ := de.shape''
 subst hvd
 obtain ⟨va, vn, vq, hv⟩ := hl.slice
 subst hv
 have hvn : vn ≤ 1000003 := by
  obtain ⟨l4, h1, _, h4⟩ := hl
  obtain ⟨_, _, e⟩ := h4.slice
  simp at e
  omega
 have bx := al1 w1 (.cells #[.slice pa1 P.length pq1, .slice pa2 S.length pq2] 27)
 have J0 : DwI w w1.heap.size (.slice pa1 P.length pq1) (.slice pa2 S.length pq2) P S (w1.alloc (.cells #[.slice pa1 P.length pq1, .slice pa2 S.length pq2] 27)) := by
  have hb := Below.and b1 bx
  exact ⟨Below.and A1.out hb, row_chg R0.out (Chg.of_below (F := fun _ => False) hb) id, heap_alloc_new _ _, (de.mono (by simp)).chg (Chg.of_below (F := fun _ => False) bx) (fun _ _ e => e) (fun _ _ e => e)⟩
 have L0 := (hl.below bx).base (B' := w.heap.size + 1) (by simp)
 have hlt0 : w.heap.size < w1.heap.size := by have := b1.size; simp at this; omega
 have HP := hid hp
 have JL := hid (And.intro J0 (And.intro L0 hlt0))
 clear hp de hl b1 bx HD A1 R0 J0 L0 hlt0
 generalize P.length = pn at *
 generalize S.length = sn at *
 generalize hX : w1.heap.size = X at *
 generalize hW : w1.alloc (.cells #[.slice pa1 pn pq1, .slice pa2 sn pq2] 27) = W at *
 have HW := hid hW
 have HX := hid hX
 clear hW hX
 go_upto_region 2 with fail
 rw [HW.out, HX.out]
 go_wp2_with fail
 refine (l1New_any v bs W (CODE.out W JL.out.1.b) HN.out).mono ?_
 rintro e w3 ⟨rfl, c3, hlt3, b3⟩
 have hsz := JL.out.1.b.size
 have J3 : Hid (∀ vb, OwnE w3 (W.heap.size + 1) 4 1 vb 0 [] → DsI w X W.heap.size (.slice pa1 pn pq1) (.slice pa2 sn pq2) P S (.slice va vn vq) vb [] w3) := fun vb hvb => by
  refine ⟨JL.out.1.low b3, c3, JL.out.2.1.below b3, hvb, fun g hg => ?_, JL.out.2.2, (Array.getElem?_eq_some_iff.1 JL.out.1.x).1⟩
  obtain ⟨vp', vs', e, o1, o2⟩ := JL.out.1.d
  simp at e
  obtain ⟨rfl, rfl⟩ := e
  obtain ⟨l4, _, _, h4⟩ := JL.out.2.1
  rcases hg with h | h | h
  ·exact (o1.lt g h).2
  ·exact (o2.lt g h).2
  ·exact (h4.lt g h).2
 have HC := hid hlt3
 clear c3 hlt3 b3 JL hsz
 generalize W.heap.size = C at *
 go_upto_region 4 with fail
 refine wp_gen (fun u => DsI w X C (.slice pa1 pn pq1) (.slice pa2 sn pq2) P S (.slice va vn vq) (.slice (some ⟨w3.heap.size, 0, none⟩) 0 0) [] u) (by
  have j := J3.out (.slice (some ⟨w3.heap.size, 0, none⟩) 0 0) (OwnE.zero _ _ _ _ _)
  exact j.turn (Chg.of_below (al1 w3 _)) (j.c.below (al1 w3 _))) ?_
 intro V hV
 have JV := hid hV
 clear hV J3
 go_wp2_with fail
 go_loopw [8, 9] (fun s i wr => ∃ (j : Nat) (bs : List Bool) (a : Option Addr) (q : Nat), j ≤ vn + 2 ∧ bs.length = j ∧ i = .int .i64 j ∧ s = .slice a bs.length q ∧ Hid (DsI w X C (.slice pa1 pn pq1) (.slice pa2 sn pq2) P S (.slice va vn vq) (.slice a bs.length q) bs wr)) (fun _ i _ => vn + 2 - (intOf i).toNat)
 case atStart => exact ⟨0, [], _, _, Nat.zero_le _, rfl, rfl, rfl, JV.out⟩
 case round =>
  obtain ⟨j, tb, a, q, hj, hbl, rfl, rfl, J⟩ := hrel
  subst hbl
  clear JV
  have HB := hid (l1Below_any C 3 wr J.out.c (by decide))
  go_wp2_with fail
  refine Calls.mono HB.out ?_
  rintro e w4 ⟨b, rfl, hb0, hb1, _, c4, G4⟩
  have hb3 := hb1 (by decide)
  have J4 := hid (J.out.turn G4 c4)
  clear J HB c4 G4 hb1
  have hb4 : b < 3 := hb3
  have hvi : (vn : Int) ≤ 1000003 := by omega
  have hji : (tb.length : Int) ≤ (vn : Int) + 2 := by omega
  by_cases hlt : (tb.length : Int) < (vn : Int) + b - 1
  ·have HO := hid (l1Once_any C 2 w4 J4.out.c (by decide))
   go_wp2_with fail
   refine Calls.mono HO.out ?_
   rintro e w5 ⟨x, rfl, c5, G5⟩
   have J5 := hid (J4.out.turn G5 c5)
   clear J4 HO c5 G5
   have RW : Hid (tb.length + 1 ≤ maxLen ∧ (tb.length + 1) * 1 ≤ 140737488355328) := ⟨by unfold maxLen; omega, by omega⟩
   have bw := bel_new w5 (.cells #[.bool x] 4)
   have c6 := J5.out.c.below bw
   have J6 := hid (J5.out.turn (Chg.of_below bw) c6)
   have RL := hid (Row.laid w5 (flatL [x]) 4 _ rfl)
   have hb9 : C + 1 ≤ (w5.alloc (.cells #[.bool x] 4)).heap.size := by have := J5.out.c.lt; simp; omega
   clear bw c6
   go_wp2_with (at_builtin; go_loud (refine list_appE (w5.alloc (.cells #[.bool x] 4)) rfl _ _ 36 rfl (C + 1) 4 i0 _ 1 1 Try.underlying36 hi hz0 hz1 hz2 rfl (by decide) (.slice a tb.length q) tb.length (flatL tb) rfl J6.out.o (.slice (some ⟨w5.heap.size, 0, none⟩) 1 1) 1 (flatL [x]) rfl RL.out rfl (flatL_one _) RW.out.1 RW.out.2 hb9 ?_))
   intro v2 w7 A2
   obtain ⟨o2, g2, b7, n2⟩ := A2
   have ho : OwnE w7 (C + 1) 4 1 v2 (tb ++ [x]).length (flatL (tb ++ [x])) := by rw [flatL_append]; simpa using o2
   have g3 : Chg (fun b => C ≤ b) (w5.alloc (.cells #[.bool x] 4)) w7 := g2.mono (fun g _ e => by have := (J6.out.o.lt g e).1; omega)
   have J7 := hid (J6.out.high g3 (J6.out.c.chg g2 (fun g e => by have := (J6.out.o.lt g e).1; omega)) ho)
   obtain ⟨a2, q2, hv2⟩ := ho.slice
   subst hv2
   clear o2 g2 b7 n2 ho g3 J6 RL hb9 RW J5
   go_wp2
   go_roundw
   case rel => exact ⟨tb.length + 1, tb ++ [x], a2, q2, by omega, by simp, by go_num, rfl, J7.out⟩
   case measure => simp [intOf]; omega
  ·obtain ⟨⟨d0, d1⟩, ⟨r0, r1, f0, f1⟩, ⟨n0, n1⟩, ch, fin⟩ := J4.out.j.fin
   have FIN : Hid ((DiskE ((w4.setCell ⟨w.heap.size, 0, none⟩ (.slice pa1 pn pq1)).setCell ⟨w.heap.size, 1, none⟩ (.slice pa2 sn pq2)) w.heap.size (.agg #[.slice pa1 pn pq1, .slice pa2 sn pq2]) P S ∧ Below w.heap.size w ((w4.setCell ⟨w.heap.size, 0, none⟩ (.slice pa1 pn pq1)).setCell ⟨w.heap.size, 1, none⟩ (.slice pa2 sn pq2))) ∧ Lst ((w4.setCell ⟨w.heap.size, 0, none⟩ (.slice pa1 pn pq1)).setCell ⟨w.heap.size, 1, none⟩ (.slice pa2 sn pq2)) w.heap.size (.slice va vn vq) 1000003 ∧ OwnE ((w4.setCell ⟨w.heap.size, 0, none⟩ (.slice pa1 pn pq1)).setCell ⟨w.heap.size, 1, none⟩ (.slice pa2 sn pq2)) w.heap.size 4 1 (.slice a tb.length q) tb.length (flatL tb) ∧ tb.length ≤ 1000010) := by
    have l := J4.out.l
    refine ⟨fin, (J4.out.li.chg ch (fun g hg (e : g = w.heap.size) => ?_)).base (by omega), (J4.out.o.chg ch (fun g hg (e : g = w.heap.size) => ?_)).mono (by omega), by omega⟩
    ·obtain ⟨l4, _, _, h4⟩ := J4.out.li
     have h1 := (h4.lt g hg).1
     omega
    ·have := (J4.out.o.lt g hg).1
     omega
   clear ch fin J4
   go_wp2
   refine bodyPost_ret (v := .tuple #[.agg #[.slice pa1 pn pq1, .slice pa2 sn pq2], .slice va vn vq, .slice a tb.length q]) (by simp [results, Try.results8, go_sem, n0, n1]) rfl ⟨_, _, _, P, S, tb, rfl, HP.out, FIN.out.1.1, FIN.out.2.1, FIN.out.2.2.1, FIN.out.2.2.2, FIN.out.1.2⟩
end
end Go.Proofs.Ytekcnibohikmdaa
