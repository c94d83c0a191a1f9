/-
  The walk of the law FnWrites.
-/
import Derived.Test.YtekcnibohikmdaaOfWrites43
import Derived.Test.YtekcnibohikmdaaOfWrites24
import Derived.Test.YtekcnibohikmdaaOfWrites4
namespace Go.Proofs.Ytekcnibohikmdaa
set_option maxRecDepth 100000
set_option maxHeartbeats 8000000
section
open Go.RowKit

theorem DiskE.shapeR {w : World} {base : Nat} {v : Value} {P : PgL} {S : SL} (h : DiskE w base v P S) : ∃ a1 q1 a2 q2, v = .agg #[.slice a1 P.length q1, .slice a2 S.length q2] := by
 obtain ⟨x, y, rfl, h1, h2⟩ := h
 obtain ⟨a1, q1, rfl⟩ := h1.slice
 obtain ⟨a2, q2, rfl⟩ := h2.slice
 exact ⟨a1, q1, a2, q2, rfl⟩
theorem DiskRow.shapeR {w : World} {v : Value} {P : PgL} {S : SL} (h : DiskRow w v P S) : ∃ a1 q1 a2 q2, v = .agg #[.slice a1 P.length q1, .slice a2 S.length q2] := by
 obtain ⟨x, y, rfl, h1, h2⟩ := h
 obtain ⟨a1, q1, rfl, _⟩ := h1.len
 obtain ⟨a2, q2, rfl, _⟩ := h2.len
 exact ⟨a1, q1, a2, q2, rfl⟩
theorem DiskRow.rows {w : World} {a b : Value} {P : PgL} {S : SL} (h : DiskRow w (.agg #[a, b]) P S) : Row w a P.length (flatS P) ∧ Row w b S.length (flatP S) := by
 obtain ⟨x, y, e, h1, h2⟩ := h
 simp at e
 obtain ⟨rfl, rfl⟩ := e
 exact ⟨h1, h2⟩
theorem Row.strsR {w : World} {v : Value} {l : PgL} (h : Row w v l.length (flatS l)) :
  ∃ (a : Option Addr) (b off cap : Nat), v = .slice a l.length cap ∧ l.length ≤ cap ∧ cap ≤ maxLen ∧ (0 < l.length → a = some ⟨b, off, none⟩) ∧ (∀ i, i < l.length → w.cell? ⟨b, off + i, none⟩ = some (.string (sOf l i))) := by
 obtain ⟨a, b, off, cap, h1, h2, h3, h4, h5, _⟩ := h
 exact ⟨a, b, off, cap, h1, h2, h3, h4, fun i hi => h5 _ _ (flatS_at l i hi)⟩
theorem sOf_wrt {X : PgL} {a : Int} {t : ByteArray} {i : Nat} (hi : i < X.length) : sOf (wrtP X a t) i = if a = i then t else sOf X i := by
 unfold wrtP
 by_cases h : 0 ≤ a ∧ a < X.length
 ·rw [if_pos h]
  by_cases e : a = i
  ·rw [if_pos e]
   subst e
   simp [sOf, List.getD, hi]
  ·rw [if_neg e]
   have : ¬ a.toNat = i := by omega
   simp [sOf, List.getD, this]
 ·rw [if_neg h, if_neg (by omega)]

theorem DiskOwn.toE {w : World} {base : Nat} {v : Value} {P : PgL} {S : SL} (h : DiskOwn w base v P S) : DiskE w base v P S := by
 obtain ⟨vp, vs, rfl, h1, h2⟩ := h
 exact ⟨vp, vs, rfl, .inl h1, .inl h2⟩
theorem one_box {u : World} {X Y : Nat} {x y : Value} (_ : u.heap[X]? = some (.cells #[.slice none 0 0, .slice none 0 0] 27)) (hy : u.heap[Y]? = some (.cells #[.slice none 0 0, .slice none 0 0] 27)) (hne : X ≠ Y) :
  (((u.setCell ⟨X, 0, none⟩ x).setCell ⟨X, 1, none⟩ y).cell? ⟨Y, 0, none⟩ = some (.slice none 0 0) ∧ ((u.setCell ⟨X, 0, none⟩ x).setCell ⟨X, 1, none⟩ y).cell? ⟨Y, 1, none⟩ = some (.slice none 0 0) ∧ ((u.setCell ⟨X, 0, none⟩ x).setCell ⟨X, 1, none⟩ y).frozen? ⟨Y, 0, none⟩ = false ∧ ((u.setCell ⟨X, 0, none⟩ x).setCell ⟨X, 1, none⟩ y).frozen? ⟨Y, 1, none⟩ = false) ∧ Chg (fun g => g = X) u ((u.setCell ⟨X, 0, none⟩ x).setCell ⟨X, 1, none⟩ y) ∧ ((u.setCell ⟨X, 0, none⟩ x).setCell ⟨X, 1, none⟩ y).heap[Y]? = some (.cells #[.slice none 0 0, .slice none 0 0] 27) := by
 have ch : Chg (fun g => g = X) u ((u.setCell ⟨X, 0, none⟩ x).setCell ⟨X, 1, none⟩ y) := ((Chg.refl (fun g => g = X) _).setAt X 0 rfl _).setAt X 1 rfl _
 have h2 := row_chg hy ch (fun e => hne e.symm)
 exact ⟨⟨cell_of_cells h2, cell_of_cells h2, frozen_of_cells h2, frozen_of_cells h2⟩, ch, h2⟩
theorem two_boxes {u : World} {X Y : Nat} {a1 a2 b1 b2 : Value} {Q : PgL} {R : SL} (hx : u.heap[X]? = some (.cells #[.slice none 0 0, .slice none 0 0] 27)) (hy : u.heap[Y]? = some (.cells #[.slice none 0 0, .slice none 0 0] 27)) (hne : X ≠ Y) (dA : DiskE u 0 (.agg #[a1, a2]) Q R) (dB : DiskE u 0 (.agg #[b1, b2]) Q R) :
  DiskE ((((u.setCell ⟨X, 0, none⟩ a1).setCell ⟨X, 1, none⟩ a2).setCell ⟨Y, 0, none⟩ b1).setCell ⟨Y, 1, none⟩ b2) 0 (.agg #[a1, a2]) Q R ∧ DiskE ((((u.setCell ⟨X, 0, none⟩ a1).setCell ⟨X, 1, none⟩ a2).setCell ⟨Y, 0, none⟩ b1).setCell ⟨Y, 1, none⟩ b2) 0 (.agg #[b1, b2]) Q R ∧
  ((((u.setCell ⟨X, 0, none⟩ a1).setCell ⟨X, 1, none⟩ a2).setCell ⟨Y, 0, none⟩ b1).setCell ⟨Y, 1, none⟩ b2).cell? ⟨X, 0, none⟩ = some a1 ∧ ((((u.setCell ⟨X, 0, none⟩ a1).setCell ⟨X, 1, none⟩ a2).setCell ⟨Y, 0, none⟩ b1).setCell ⟨Y, 1, none⟩ b2).cell? ⟨Y, 0, none⟩ = some b1 ∧
  Chg (fun g => g = X ∨ g = Y) u ((((u.setCell ⟨X, 0, none⟩ a1).setCell ⟨X, 1, none⟩ a2).setCell ⟨Y, 0, none⟩ b1).setCell ⟨Y, 1, none⟩ b2) ∧ True := by
 obtain ⟨_, ch1, hy2⟩ := one_box (x := a1) (y := a2) hx hy hne
 have hx2 := heap_setCell_same _ _ 1 _ _ a2 (heap_setCell_same u _ 0 _ _ a1 hx)
 have ch2 : Chg (fun g => g = Y) ((u.setCell ⟨X, 0, none⟩ a1).setCell ⟨X, 1, none⟩ a2) ((((u.setCell ⟨X, 0, none⟩ a1).setCell ⟨X, 1, none⟩ a2).setCell ⟨Y, 0, none⟩ b1).setCell ⟨Y, 1, none⟩ b2) := ((Chg.refl (fun g => g = Y) _).setAt Y 0 rfl _).setAt Y 1 rfl _
 have hy3 := heap_setCell_same _ _ 1 _ _ b2 (heap_setCell_same ((u.setCell ⟨X, 0, none⟩ a1).setCell ⟨X, 1, none⟩ a2) _ 0 _ _ b1 hy2)
 have hx3 := row_chg hx2 ch2 hne
 have ch : Chg (fun g => g = X ∨ g = Y) u ((((u.setCell ⟨X, 0, none⟩ a1).setCell ⟨X, 1, none⟩ a2).setCell ⟨Y, 0, none⟩ b1).setCell ⟨Y, 1, none⟩ b2) := (ch1.mono (fun _ _ e => .inl e)).trans ch2 (fun _ _ e => .inr e)
 have nx := dA.not hx (by decide) (by decide)
 have ny := dA.not hy (by decide) (by decide)
 have mx := dB.not hx (by decide) (by decide)
 have my := dB.not hy (by decide) (by decide)
 refine ⟨dA.chg ch (fun g hg e => ?_) (fun g hg e => ?_), dB.chg ch (fun g hg e => ?_) (fun g hg e => ?_), cell_of_cells hx3, cell_of_cells hy3, ch, trivial⟩
 ·rcases e with rfl | rfl
  ·exact nx.1 hg
  ·exact ny.1 hg
 ·rcases e with rfl | rfl
  ·exact nx.2 hg
  ·exact ny.2 hg
 ·rcases e with rfl | rfl
  ·exact mx.1 hg
  ·exact my.1 hg
 ·rcases e with rfl | rfl
  ·exact mx.2 hg
  ·exact my.2 hg
theorem runISome (args : Array Value) (w : World) : (callFunc 9 args).run Try.prog w = .ok (.enter 9 args) w := by go_simp
theorem runSSome (args : Array Value) (w : World) : (callFunc 10 args).run Try.prog w = .ok (.enter 10 args) w := by go_simp

theorem fnWrites_any (v : Value) (bs : List Int) (w : World) (hc : Code8 w v bs) :
  Calls Try.prog 3 #[v] w fun e w' => e = .returned (.bool true) ∧ Below w.heap.size w w' := by
 obtain ⟨a0, cap0, hv, hle⟩ := hc.1.len
 by_cases hbig : bs.length ≤ 1048576
 ·have hd : decide (bs.length > 1048576) = false := decide_eq_false (by omega)
  have HD := hid (drawDo_any v bs w hc hbig)
  have HS := hid (fun (u : World) (hu : Below w.heap.size w u) => drawSome_any v bs u (hc.below hu) hbig)
  clear hc
  subst hv
  go_enter Try.func3, Try.ntmps3
  go_wp2_with fail
  refine (big_any _ _ _ hle _).mono ?_
  rintro e w0 ⟨rfl, hw0⟩
  subst hw0
  rw [hd]
  generalize bs.length = bn at *
  clear hd hle hbig
  go_wp2_with fail
  refine Calls.mono HD.out ?_
  rintro e w1 ⟨vd, vl, P, S, rfl, dp, de, hl, b1⟩
  obtain ⟨pa, pq, sa, sq, hvd⟩ := de.shapeR
  subst hvd
  obtain ⟨l, hll, hok, hlo⟩ := hl
  obtain ⟨la, lq, hvl⟩ := hlo.slice
  subst hvl
  have HOK := hid hok
  have hlr := hlo.rowN'
  have hdr := de.diskRow
  have LV : Hid (∀ V, V = w0.alloc (.cells #[.bool true] 0) → True) := fun _ _ => trivial
  have L3 : Hid (∀ V, V = w1.alloc (.cells #[.slice pa P.length pq, .slice sa S.length sq] 27) → ∀ u, Below V.heap.size V u → (u.cell? ⟨w1.heap.size, 0, none⟩ = some (.slice pa P.length pq) ∧ u.cell? ⟨w1.heap.size, 1, none⟩ = some (.slice sa S.length sq)) ∧ DiskRow u (.agg #[.slice pa P.length pq, .slice sa S.length sq]) P S ∧ Row u (.slice la l.length lq) l.length (flatW l) ∧ Below w0.heap.size w0 u) := by
   rintro V rfl u hu
   have al := al1 w1 (.cells #[.slice pa P.length pq, .slice sa S.length sq] 27)
   have hb := Below.and al hu
   have hx : u.heap[w1.heap.size]? = some (.cells #[.slice pa P.length pq, .slice sa S.length sq] 27) := row_chg (heap_alloc_new _ _) (Chg.of_below (F := fun _ => False) hu) id
   exact ⟨⟨cell_of_cells hx, cell_of_cells hx⟩, hdr.below hb, hlr.below hb, Below.and b1 hb⟩
  have DP := hid dp
  have LL := hid hll
  clear dp de hlo hlr hdr b1 hok hll HD LV
  go_upto_region 4 with fail
  refine wp_gen (fun u => u = w1.alloc (.cells #[.slice pa P.length pq, .slice sa S.length sq] 27)) rfl ?_
  intro V hV
  have LIVE := hid (L3.out V hV)
  clear hV L3
  generalize w1.heap.size = X3 at *
  have F3 := hid (LIVE.out V (Below.refl _ _))
  have hPl : P.length ≤ 1048576 := Nat.le_trans DP.out.1.1 (by decide)
  have hSl : S.length ≤ 1048576 := Nat.le_trans DP.out.2 (by decide)
  have H4 := hid (implDo_any _ P S _ l V F3.out.2.1 F3.out.2.2.1 hPl hSl (fun x hx => (HOK.out x hx).1))
  obtain ⟨⟨x0, x1⟩, _⟩ := F3.out
  clear F3
  go_wp2_with fail
  refine Calls.mono H4.out ?_
  rintro e w4 ⟨ve, rfl, oe, b4⟩
  have her := oe.row
  obtain ⟨ea, eq, ga, gq, hve⟩ := her.shapeR
  subst hve
  have hQl : (dkP P l).length = P.length := dkP_length _ _
  have hRl : (dkS S l).length = S.length := dkS_length _ _
  rw [hQl, hRl] at her
  have HQ : Hid ((dkP P l).length = P.length ∧ (dkS S l).length = S.length) := ⟨hQl, hRl⟩
  rw [hQl, hRl]
  have her2 : Row w4 (.slice ea P.length eq) P.length (flatS (dkP P l)) := by have h := her.rows.1; rw [hQl] at h; exact h
  have L5 : Hid (∀ V5, V5 = w4.alloc (.cells #[.slice ea P.length eq, .slice ga S.length gq] 27) → ∀ u, Below V5.heap.size V5 u → (u.cell? ⟨w4.heap.size, 0, none⟩ = some (.slice ea P.length eq) ∧ u.cell? ⟨w4.heap.size, 1, none⟩ = some (.slice ga S.length gq)) ∧ Row u (.slice ea P.length eq) P.length (flatS (dkP P l)) ∧ Below V.heap.size V u) := by
   rintro V5 rfl u hu
   have al := al1 w4 (.cells #[.slice ea P.length eq, .slice ga S.length gq] 27)
   have hb := Below.and al hu
   have hx : u.heap[w4.heap.size]? = some (.cells #[.slice ea P.length eq, .slice ga S.length gq] 27) := row_chg (heap_alloc_new _ _) (Chg.of_below (F := fun _ => False) hu) id
   exact ⟨⟨cell_of_cells hx, cell_of_cells hx⟩, her2.below hb, Below.and b4 hb⟩
  clear her her2 oe b4 hQl hRl x0 x1 H4
  go_upto_region 5 with fail
  refine wp_gen (fun u => u = w4.alloc (.cells #[.slice ea P.length eq, .slice ga S.length gq] 27)) rfl ?_
  intro V5 hV
  have LIV5 := hid (L5.out V5 hV)
  clear hV L5
  generalize w4.heap.size = X5 at *
  have F5 := hid (LIVE.out V5 (LIV5.out V5 (Below.refl _ _)).2.2)
  have H5 := hid (specDo_any _ P S _ l V5 F5.out.2.1 F5.out.2.2.1 hPl hSl (fun x hx => (HOK.out x hx).1))
  obtain ⟨⟨x0, x1⟩, _⟩ := F5.out
  clear F5
  go_wp2_with fail
  refine Calls.mono H5.out ?_
  rintro e w5 ⟨vf, rfl, of, b5⟩
  obtain ⟨fa, fq, ha, hq, hvf⟩ := of.shapeR
  subst hvf
  have hfr := of.diskRow
  rw [HQ.out.1, HQ.out.2] at hfr ⊢
  have her2 : Row w5 (.slice fa P.length fq) P.length (flatS (dkP P l)) := by have h := hfr.rows.1; rw [HQ.out.1] at h; exact h
  have L6 : Hid (∀ V6, V6 = w5.alloc (.cells #[.slice fa P.length fq, .slice ha S.length hq] 27) → ∀ u, Below V6.heap.size V6 u → (u.cell? ⟨w5.heap.size, 0, none⟩ = some (.slice fa P.length fq) ∧ u.cell? ⟨w5.heap.size, 1, none⟩ = some (.slice ha S.length hq)) ∧ Row u (.slice fa P.length fq) P.length (flatS (dkP P l)) ∧ Below V5.heap.size V5 u) := by
   rintro V6 rfl u hu
   have al := al1 w5 (.cells #[.slice fa P.length fq, .slice ha S.length hq] 27)
   have hb := Below.and al hu
   have hx : u.heap[w5.heap.size]? = some (.cells #[.slice fa P.length fq, .slice ha S.length hq] 27) := row_chg (heap_alloc_new _ _) (Chg.of_below (F := fun _ => False) hu) id
   exact ⟨⟨cell_of_cells hx, cell_of_cells hx⟩, her2.below hb, Below.and b5 hb⟩
  clear hfr her2 of b5 x0 x1 H5
  go_upto_region 6 with fail
  refine wp_gen (fun u => u = w5.alloc (.cells #[.slice fa P.length fq, .slice ha S.length hq] 27)) rfl ?_
  intro V6 hV
  have LIV6 := hid (L6.out V6 hV)
  clear hV L6
  generalize w5.heap.size = X6 at *
  have ALL : Hid (∀ u, Below V6.heap.size V6 u → ((u.cell? ⟨X3, 0, none⟩ = some (.slice pa P.length pq) ∧ u.cell? ⟨X5, 0, none⟩ = some (.slice ea P.length eq) ∧ u.cell? ⟨X6, 0, none⟩ = some (.slice fa P.length fq)) ∧ (u.cell? ⟨X5, 1, none⟩ = some (.slice ga S.length gq) ∧ u.cell? ⟨X6, 1, none⟩ = some (.slice ha S.length hq))) ∧ (Row u (.slice pa P.length pq) P.length (flatS P) ∧ Row u (.slice ea P.length eq) P.length (flatS (dkP P l)) ∧ Row u (.slice fa P.length fq) P.length (flatS (dkP P l))) ∧ Row u (.slice la l.length lq) l.length (flatW l) ∧ Below w0.heap.size w0 u) := fun u hu => by
   obtain ⟨a1, a2, a3⟩ := LIV6.out u hu
   obtain ⟨b1, b2, b3⟩ := LIV5.out u a3
   obtain ⟨c1, c2, c3, c4⟩ := LIVE.out u b3
   exact ⟨⟨⟨c1.1, b1.1, a1.1⟩, b1.2, a1.2⟩, ⟨c2.rows.1, b2, a2⟩, c3, c4⟩
  clear LIVE LIV5 LIV6
  have hPl2 : (P.length : Int) ≤ 1048576 := by omega
  have hSl2 : (S.length : Int) ≤ 1048576 := by omega
  obtain ⟨⟨⟨x0, x1, x2⟩, x3, x4⟩, _⟩ := ALL.out V6 (Below.refl _ _)
  go_upto_block 0 with fail
  clear x0 x1 x2 x3 x4
  go_cut [] (fun wx => Hid (Below w0.heap.size w0 wx))
  case first =>
   go_wp2_with fail
   go_loopw [7] (fun i wr => ∃ j : Nat, j ≤ P.length ∧ i = .int .i64 j ∧ Hid (Below V6.heap.size V6 wr)) (fun i _ => P.length - (intOf i).toNat)
   case atStart => exact ⟨0, Nat.zero_le _, rfl, Below.refl _ _⟩
   case round =>
    obtain ⟨j, hj, rfl, J⟩ := hrel
    obtain ⟨⟨⟨x0, x1, x2⟩, _⟩, ⟨r1, r2, r3⟩, rl, _⟩ := ALL.out wr J.out
    by_cases hlt : j < P.length
    ·obtain ⟨_, pb, po, _, e1, _, _, e4, pk⟩ := r1.strsR
     injection e1 with e1 _ e3
     subst e1 e3
     have hal := e4 (by omega)
     subst hal
     have hQ := HQ.out.1
     have r2' : Row wr (.slice ea (dkP P l).length eq) (dkP P l).length (flatS (dkP P l)) := by rw [hQ]; exact r2
     have r3' : Row wr (.slice fa (dkP P l).length fq) (dkP P l).length (flatS (dkP P l)) := by rw [hQ]; exact r3
     obtain ⟨_, eb, eo, _, e1, _, _, e4', ek⟩ := r2'.strsR
     injection e1 with e1 _ e3
     subst e1 e3
     have hal := e4' (by omega)
     subst hal
     obtain ⟨_, fb, fo, _, e1, _, _, e4'', fk⟩ := r3'.strsR
     injection e1 with e1 _ e3
     subst e1 e3
     have hal := e4'' (by omega)
     subst hal
     have p0 := pk j hlt
     have CE := hid (And.intro (ek j (by omega)) (fk j (by omega)))
     have RL := hid rl
     have Z : Hid (sOf P j = sOf (dkP P (l.take 0)) j) := by show _ = _; rw [List.take_zero]; rfl
     have DK : Hid (∀ k, (dkP P (l.take k)).length = P.length) := fun k => dkP_length _ _
     have hb1 : (0 : Int) ≤ (j : Int) := by omega
     have hb2 : (j : Int) < (P.length : Int) := by omega
     clear pk ek fk e4 e4' e4'' r1 r2 r3 r2' r3' rl hQ
     go_wp2_with fail
     rw [Z.out]
     go_loopw [8, 9] (fun s i u => ∃ k : Nat, k ≤ l.length ∧ i = .int .i64 k ∧ u = wr ∧ s = .string (sOf (dkP P (l.take k)) j)) (fun _ i _ => l.length - (intOf i).toNat)
     case atStart => exact ⟨0, Nat.zero_le _, rfl, rfl, rfl⟩
     case round =>
      obtain ⟨k, hk, rfl, rfl, rfl⟩ := hrel
      by_cases hkl : k < l.length
      ·obtain ⟨_, lb, lo, _, e1, _, _, e4, lk⟩ := RL.out.writs
       injection e1 with e1 _ e3
       subst e1 e3
       have hal := e4 (by omega)
       subst hal
       obtain ⟨c0, c1, _⟩ := lk k hkl
       have hk1 : (0 : Int) ≤ (k : Int) := by omega
       have hk2 : (k : Int) < (l.length : Int) := by omega
       have hk3 : (l.length : Int) ≤ 1000003 := by have := LL.out; omega
       have NX : Hid (sOf (dkP P (l.take (k + 1))) j = if wA l k = j then wT l k else sOf (dkP P (l.take k)) j) := by
        show _ = _
        rw [dkP_next l P k hkl, sOf_wrt (by rw [DK.out]; exact hlt)]
       clear e4 lk p0 x0 x1 x2
       generalize wA l k = A at *
       generalize wT l k = T at *
       by_cases hA : A = j
       ·have g0 : (A == (j : Int)) = true := by rw [beq_iff_eq]; exact hA
        rw [if_pos hA] at NX
        clear hA
        go_wp2
        go_roundw
        case rel => exact ⟨k + 1, by omega, by go_num, trivial, by rw [NX.out]⟩
        case measure => simp [intOf]; omega
       ·have g0 : (A == (j : Int)) = false := by rw [beq_eq_false_iff_ne]; exact hA
        rw [if_neg hA] at NX
        clear hA
        go_wp2
        go_roundw
        case rel => exact ⟨k + 1, by omega, by go_num, trivial, by rw [NX.out]⟩
        case measure => simp [intOf]; omega
      ·have hke : k = l.length := by omega
       subst hke
       rw [List.take_length]
       obtain ⟨s1, s2⟩ := CE.out
       generalize sOf (dkP P l) j = st at *
       go_wp2_with fail
       have SD : Hid (wr.drew.cell? ⟨X5, 0, none⟩ = some (.slice (some ⟨eb, eo, none⟩) P.length eq) ∧ wr.drew.cell? ⟨X6, 0, none⟩ = some (.slice (some ⟨fb, fo, none⟩) P.length fq) ∧ wr.drew.cell? ⟨eb, eo + j, none⟩ = some (.string st) ∧ wr.drew.cell? ⟨fb, fo + j, none⟩ = some (.string st)) := ⟨x1, x2, s1, s2⟩
       have JD := hid (Below.and J.out (Below.refl _ wr).drew)
       refine wp_region_held_drew (S := fun u => u.cell? ⟨X5, 0, none⟩ = some (.slice (some ⟨eb, eo, none⟩) P.length eq) ∧ u.cell? ⟨X6, 0, none⟩ = some (.slice (some ⟨fb, fo, none⟩) P.length fq) ∧ u.cell? ⟨eb, eo + j, none⟩ = some (.string st) ∧ u.cell? ⟨fb, fo + j, none⟩ = some (.string st)) (by kernel_rfl) SD.out (fun hH => ?_)
       clear x0 x1 x2 s1 s2 p0 SD
       generalize wr.drew = wd at *
       refine tq 0 rfl (by kernel_rfl) (fun _ _ _ h => h) (by assumption) rfl (by intro w h; go_simp <;> with_reducible rfl) ?_
       try simp only [Act.put, List.setIfInBounds_toArray, List.set_cons_zero, List.set_cons_succ]
       refine tq 1 rfl (by kernel_rfl) (fun _ _ _ h => h) (by assumption) rfl (by intro w h; go_simp <;> with_reducible rfl) ?_
       try simp only [Act.put, List.setIfInBounds_toArray, List.set_cons_zero, List.set_cons_succ]
       refine tq 2 rfl (by kernel_rfl) (fun _ _ _ h => h) (by assumption) rfl (by intro w h; go_simp <;> with_reducible rfl) ?_
       try simp only [Act.put, List.setIfInBounds_toArray, List.set_cons_zero, List.set_cons_succ]
       refine tq 3 rfl (by kernel_rfl) (fun _ _ _ h => h) (by assumption) rfl (by intro w h; go_simp <;> with_reducible rfl) ?_
       try simp only [Act.put, List.setIfInBounds_toArray, List.set_cons_zero, List.set_cons_succ]
       refine tq 4 rfl (by kernel_rfl) (fun _ _ _ h => h) (by assumption) rfl (by intro w h; go_simp <;> with_reducible rfl) ?_
       try simp only [Act.put, List.setIfInBounds_toArray, List.set_cons_zero, List.set_cons_succ]
       refine tq 5 rfl (by kernel_rfl) (fun _ _ _ h => h) (by assumption) rfl (by intro w h; go_simp <;> with_reducible rfl) ?_
       try simp only [Act.put, List.setIfInBounds_toArray, List.set_cons_zero, List.set_cons_succ]
       refine tq 6 rfl (by kernel_rfl) (fun _ _ _ h => h) (by assumption) rfl (by intro w h; go_simp <;> with_reducible rfl) ?_
       try simp only [Act.put, List.setIfInBounds_toArray, List.set_cons_zero, List.set_cons_succ]
       refine tq 7 rfl (by kernel_rfl) (fun _ _ _ h => h) (by assumption) rfl (by intro w h; go_simp <;> with_reducible rfl) ?_
       try simp only [Act.put, List.setIfInBounds_toArray, List.set_cons_zero, List.set_cons_succ]
       refine tq 8 rfl (by kernel_rfl) (fun _ _ _ h => h) (by assumption) rfl (by intro w h; go_simp <;> with_reducible rfl) ?_
       try simp only [Act.put, List.setIfInBounds_toArray, List.set_cons_zero, List.set_cons_succ]
       refine tq 9 rfl (by kernel_rfl) (fun _ _ _ h => h) (by assumption) rfl (by intro w h; go_simp <;> with_reducible rfl) ?_
       try simp only [Act.put, List.setIfInBounds_toArray, List.set_cons_zero, List.set_cons_succ]
       refine tq 10 rfl (by kernel_rfl) (fun _ _ _ h => h) (by assumption) rfl (by intro w h; go_simp <;> with_reducible rfl) ?_
       try simp only [Act.put, List.setIfInBounds_toArray, List.set_cons_zero, List.set_cons_succ]
       refine tq 11 rfl (by kernel_rfl) (fun _ _ _ h => h) (by assumption) rfl (by intro w h; go_simp <;> with_reducible rfl) ?_
       try simp only [Act.put, List.setIfInBounds_toArray, List.set_cons_zero, List.set_cons_succ]
       refine tq 12 rfl (by kernel_rfl) (fun _ _ _ h => h) (by assumption) rfl (by intro w h; go_simp <;> with_reducible rfl) ?_
       try simp only [Act.put, List.setIfInBounds_toArray, List.set_cons_zero, List.set_cons_succ]
       refine tq 13 rfl (by kernel_rfl) (fun _ _ _ h => h) (by assumption) rfl (by intro w h; go_simp <;> with_reducible rfl) ?_
       try simp only [Act.put, List.setIfInBounds_toArray, List.set_cons_zero, List.set_cons_succ]
       refine tq 14 rfl (by kernel_rfl) (fun _ _ _ h => h) (by assumption) rfl (by intro w h; go_simp <;> with_reducible rfl) ?_
       try simp only [Act.put, List.setIfInBounds_toArray, List.set_cons_zero, List.set_cons_succ]
       refine tq 15 rfl (by kernel_rfl) (fun _ _ _ h => h) (by assumption) rfl (by intro w h; go_simp <;> with_reducible rfl) ?_
       try simp only [Act.put, List.setIfInBounds_toArray, List.set_cons_zero, List.set_cons_succ]
       refine tq 16 rfl (by kernel_rfl) (fun _ _ _ h => h) (by assumption) rfl (by intro w h; go_simp <;> with_reducible rfl) ?_
       try simp only [Act.put, List.setIfInBounds_toArray, List.set_cons_zero, List.set_cons_succ]
       refine tq 17 rfl (by kernel_rfl) (fun _ _ _ h => h) (by assumption) rfl (by intro w h; go_simp <;> with_reducible rfl) ?_
       try simp only [Act.put, List.setIfInBounds_toArray, List.set_cons_zero, List.set_cons_succ]
       refine tq 18 rfl (by kernel_rfl) (fun _ _ _ h => h) (by assumption) rfl (by intro w h; go_simp <;> with_reducible rfl) ?_
       try simp only [Act.put, List.setIfInBounds_toArray, List.set_cons_zero, List.set_cons_succ]
       refine tq 19 rfl (by kernel_rfl) (fun _ _ _ h => h) (by assumption) rfl (by intro w h; go_simp <;> with_reducible rfl) ?_
       try simp only [Act.put, List.setIfInBounds_toArray, List.set_cons_zero, List.set_cons_succ]
       refine wpAnyH_done (by kernel_rfl) ?_ _
       clear hH
       go_wp2
       go_roundw
       case rel => exact ⟨j + 1, by omega, by go_num, JD.out⟩
       case measure => simp [intOf]; omega
    ·have hje : j = P.length := by omega
     subst hje
     go_wp2_with fail
     go_meet
     case rel => exact hid (ALL.out wr J.out).2.2.2
  case rest =>
   clear ALL HQ HOK DP LL hPl hSl hPl2 hSl2
   have HD := hid (HS.out wc hcut.out)
   go_wp2_with fail
   refine Calls.mono HD.out ?_
   rintro e w1 ⟨vd, vl, vb, P, S, tb, rfl, dp, de, hl, hob, htb, b1⟩
   obtain ⟨pa, pq, sa, sq, hvd⟩ := de.shapeR
   subst hvd
   obtain ⟨l, hll, hok, hlo⟩ := hl
   obtain ⟨la, lq, hvl⟩ := hlo.slice
   subst hvl
   obtain ⟨ta, tq', hvb⟩ := hob.slice
   subst hvb
   have HOK := hid hok
   have hlr := hlo.rowN'
   have htr := hob.rowN'
   have hdr := de.diskRow
   have hcb := hcut.out
   have L10 : Hid (∀ V, V = w1.alloc (.cells #[.slice pa P.length pq, .slice sa S.length sq] 27) → ∀ u, Below V.heap.size V u → (u.cell? ⟨w1.heap.size, 0, none⟩ = some (.slice pa P.length pq) ∧ u.cell? ⟨w1.heap.size, 1, none⟩ = some (.slice sa S.length sq)) ∧ DiskRow u (.agg #[.slice pa P.length pq, .slice sa S.length sq]) P S ∧ (Row u (.slice la l.length lq) l.length (flatW l) ∧ Row u (.slice ta tb.length tq') tb.length (flatL tb)) ∧ Below w0.heap.size w0 u) := by
    rintro V rfl u hu
    have al := al1 w1 (.cells #[.slice pa P.length pq, .slice sa S.length sq] 27)
    have hb := Below.and al hu
    have hx : u.heap[w1.heap.size]? = some (.cells #[.slice pa P.length pq, .slice sa S.length sq] 27) := row_chg (heap_alloc_new _ _) (Chg.of_below (F := fun _ => False) hu) id
    exact ⟨⟨cell_of_cells hx, cell_of_cells hx⟩, hdr.below hb, ⟨hlr.below hb, htr.below hb⟩, hcb.trans ((Below.and b1 hb).mono hcb.size)⟩
   have LEN : Hid (P.length ≤ 1048576 ∧ S.length ≤ 1048576 ∧ l.length ≤ 1048576) := ⟨Nat.le_trans dp.1.1 (by decide), Nat.le_trans dp.2 (by decide), by omega⟩
   clear dp de hlo hlr htr hdr b1 hok hob HD hcb
   go_upto_region 20 with fail
   refine wp_gen (fun u => u = w1.alloc (.cells #[.slice pa P.length pq, .slice sa S.length sq] 27)) rfl ?_
   intro V10 hV
   have LIVE := hid (L10.out V10 hV)
   clear hV L10
   generalize w1.heap.size = X10 at *
   generalize hL : selK l tb l.length = L
   have HL := hid hL
   clear hL
   go_cut [13, 14] (fun s13 s14 wx => ∃ (X13 X14 : Nat) (aa ba : Option Addr) (aq cq : Nat), s13 = .pointer (some ⟨X13, 0, none⟩) ∧ s14 = .pointer (some ⟨X14, 0, none⟩) ∧ Hid (wx.cell? ⟨X13, 0, none⟩ = some (.slice aa (dkP P L).length aq) ∧ wx.cell? ⟨X14, 0, none⟩ = some (.slice ba (dkP P L).length cq) ∧ Row wx (.slice aa (dkP P L).length aq) (dkP P L).length (flatS (dkP P L)) ∧ Row wx (.slice ba (dkP P L).length cq) (dkP P L).length (flatS (dkP P L)) ∧ Below w0.heap.size w0 wx))
   case first =>
    have BLwd : Hid (Below V10.heap.size V10 V10.drew) := (Below.refl _ V10).drew
    refine wp_region_held_drew (S := fun u => u.cell? ⟨X10, 0, none⟩ = some (.slice pa P.length pq) ∧ u.cell? ⟨X10, 1, none⟩ = some (.slice sa S.length sq)) (by kernel_rfl) (LIVE.out _ BLwd.out).1 (fun hH => ?_)
    generalize V10.drew = wd at *
    refine tq 0 rfl (by kernel_rfl) (fun _ _ _ h => h) (by assumption) rfl (by intro w h; go_simp <;> with_reducible rfl) ?_
    try simp only [Act.put, List.setIfInBounds_toArray, List.set_cons_zero, List.set_cons_succ]
    refine tq 1 rfl (by kernel_rfl) (fun _ _ _ h => h) (by assumption) rfl (by intro w h; go_simp <;> with_reducible rfl) ?_
    try simp only [Act.put, List.setIfInBounds_toArray, List.set_cons_zero, List.set_cons_succ]
    refine tq 2 rfl (by kernel_rfl) (fun _ _ _ h => h) (by assumption) rfl (by intro w h; go_simp <;> with_reducible rfl) ?_
    try simp only [Act.put, List.setIfInBounds_toArray, List.set_cons_zero, List.set_cons_succ]
    refine tq 4 rfl (by kernel_rfl) (fun _ _ _ h => h) (by assumption) rfl (by intro w h; go_simp <;> with_reducible rfl) ?_
    try simp only [Act.put, List.setIfInBounds_toArray, List.set_cons_zero, List.set_cons_succ]
    refine tq 5 rfl (by kernel_rfl) (fun _ _ _ h => h) (by assumption) rfl (by intro w h; go_simp <;> with_reducible rfl) ?_
    try simp only [Act.put, List.setIfInBounds_toArray, List.set_cons_zero, List.set_cons_succ]
    refine tq 6 rfl (by kernel_rfl) (fun _ _ _ h => h) (by assumption) rfl (by intro w h; go_simp <;> with_reducible rfl) ?_
    try simp only [Act.put, List.setIfInBounds_toArray, List.set_cons_zero, List.set_cons_succ]
    refine wpAnyH_ready (rs := [3, 8, 9]) (by kernel_rfl) (by simp) ?_
    refine AllReadyH.cons (o := ⟨_, _, _, _, _, _⟩) rfl (fun K hK => ?_) (AllReadyH.cons (o := ⟨_, _, _, _, _, _⟩) rfl (fun K hK => ?_) (AllReadyH.cons (o := ⟨_, _, _, _, _, _⟩) rfl (fun K hK => ?_) AllReadyH.nil))
    ·have HC := hid (implSome_any _ P S _ l _ tb wd (LIVE.out wd BLwd.out).2.1 (LIVE.out wd BLwd.out).2.2.1.1 (LIVE.out wd BLwd.out).2.2.1.2 LEN.out.1 LEN.out.2.1 LEN.out.2.2 (fun x hx => (HOK.out x hx).1))
     refine step_func rfl 9 [.tmp 101, .tmp 102, .tmp 103] #[27, 28, 36] rfl runISome [.agg #[.slice pa P.length pq, .slice sa S.length sq], .slice la l.length lq, .slice ta tb.length tq'] rfl HC.out ?_
     rintro e wd3 ⟨vr, rfl, oo, bb9⟩
     rw [HL.out] at oo
     have oe := oo.toE
     obtain ⟨aa, aq, ab, bq, hvr⟩ := oe.shapeR
     subst hvr
     refine ⟨_, rfl, ?_⟩
     have DAwd3 := hid (oe.mono (Nat.zero_le _))
     have BLwd3 := hid (BLwd.out.trans (bb9.mono BLwd.out.size))
     clear BLwd bb9 HC oo oe
     refine hK.out _ _ (LIVE.out wd3 BLwd3.out).1 (fun hH2 => ?_)
     clear hK K hH
     have hH := hH2
     clear hH2
     try simp only [Act.put, List.setIfInBounds_toArray, List.set_cons_zero, List.set_cons_succ]
     refine wpAnyH_ready (rs := [7, 8, 9]) (by kernel_rfl) (by simp) ?_
     refine AllReadyH.cons (o := ⟨_, _, _, _, _, _⟩) rfl (fun K hK => ?_) (AllReadyH.cons (o := ⟨_, _, _, _, _, _⟩) rfl (fun K hK => ?_) (AllReadyH.cons (o := ⟨_, _, _, _, _, _⟩) rfl (fun K hK => ?_) AllReadyH.nil))
     ·have HC := hid (specSome_any _ P S _ l _ tb wd3 (LIVE.out wd3 BLwd3.out).2.1 (LIVE.out wd3 BLwd3.out).2.2.1.1 (LIVE.out wd3 BLwd3.out).2.2.1.2 LEN.out.1 LEN.out.2.1 LEN.out.2.2 (fun x hx => (HOK.out x hx).1))
      refine step_func rfl 10 [.tmp 105, .tmp 106, .tmp 107] #[27, 28, 36] rfl runSSome [.agg #[.slice pa P.length pq, .slice sa S.length sq], .slice la l.length lq, .slice ta tb.length tq'] rfl HC.out ?_
      rintro e wd37 ⟨vr, rfl, oo, bb9⟩
      rw [HL.out] at oo
      have oe := oo
      obtain ⟨ba, cq, bb, dq, hvr⟩ := oe.shapeR
      subst hvr
      refine ⟨_, rfl, ?_⟩
      have DBwd37 := hid (oe.mono (Nat.zero_le _))
      have DAwd37 := hid (DAwd3.out.chg (Chg.of_below (F := fun _ => False) bb9) (fun _ _ e => e) (fun _ _ e => e))
      have BLwd37 := hid (BLwd3.out.trans (bb9.mono BLwd3.out.size))
      clear BLwd3 DAwd3 bb9 HC oo oe
      refine hK.out _ _ (LIVE.out wd37 BLwd37.out).1 (fun hH2 => ?_)
      clear hK K hH
      have hH := hH2
      clear hH2
      try simp only [Act.put, List.setIfInBounds_toArray, List.set_cons_zero, List.set_cons_succ]
      refine wpAnyH_ready (rs := [8, 9]) (by kernel_rfl) (by simp) ?_
      refine AllReadyH.cons (o := ⟨_, _, _, _, _, _⟩) rfl (fun K hK => ?_) (AllReadyH.cons (o := ⟨_, _, _, _, _, _⟩) rfl (fun K hK => ?_) AllReadyH.nil)
      ·go_simp
       have bb9 := bel_new wd37 (.cells #[.slice none 0 0, .slice none 0 0] 27)
       have nn9 := heap_alloc_new wd37 (.cells #[.slice none 0 0, .slice none 0 0] 27)
       have DAwd378 := hid (DAwd37.out.chg (Chg.of_below (F := fun _ => False) bb9) (fun _ _ e => e) (fun _ _ e => e))
       have DBwd378 := hid (DBwd37.out.chg (Chg.of_below (F := fun _ => False) bb9) (fun _ _ e => e) (fun _ _ e => e))
       have BLwd378 := hid (BLwd37.out.trans (bb9.mono BLwd37.out.size))
       have B8wd378 := hid nn9
       have G8 := hid (show V10.heap.size ≤ wd37.heap.size from BLwd37.out.size)
       clear nn9
       clear BLwd37 DAwd37 DBwd37 bb9
       generalize wd37.heap.size = X13 at *
       generalize wd37.alloc (.cells #[.slice none 0 0, .slice none 0 0] 27) = wd378 at *
       refine hK.out _ _ (LIVE.out wd378 BLwd378.out).1 (fun hH2 => ?_)
       clear hK K hH
       have hH := hH2
       clear hH2
       try simp only [Act.put, List.setIfInBounds_toArray, List.set_cons_zero, List.set_cons_succ]
       refine rq 9 (by kernel_rfl) rfl (fun K hK => ?_)
       go_simp
       have bb9 := bel_new wd378 (.cells #[.slice none 0 0, .slice none 0 0] 27)
       have nn9 := heap_alloc_new wd378 (.cells #[.slice none 0 0, .slice none 0 0] 27)
       have DAwd3789 := hid (DAwd378.out.chg (Chg.of_below (F := fun _ => False) bb9) (fun _ _ e => e) (fun _ _ e => e))
       have DBwd3789 := hid (DBwd378.out.chg (Chg.of_below (F := fun _ => False) bb9) (fun _ _ e => e) (fun _ _ e => e))
       have B8wd3789 := hid (row_chg B8wd378.out (Chg.of_below (F := fun _ => False) bb9) id)
       have BLwd3789 := hid (BLwd378.out.trans (bb9.mono BLwd378.out.size))
       have B9wd3789 := hid nn9
       have G9 := hid (show V10.heap.size ≤ wd378.heap.size from BLwd378.out.size)
       have lt9 := (Array.getElem?_eq_some_iff.1 B8wd378.out).1
       have N89 : Hid (X13 ≠ wd378.heap.size) := by show _ ≠ _; omega
       have G89 : Hid (V10.heap.size ≤ X13 ∧ V10.heap.size ≤ wd378.heap.size) := ⟨G8.out, G9.out⟩
       clear lt9
       clear nn9
       clear BLwd378 DAwd378 DBwd378 B8wd378 bb9
       generalize wd378.heap.size = X14 at *
       generalize wd378.alloc (.cells #[.slice none 0 0, .slice none 0 0] 27) = wd3789 at *
       refine hK.out _ _ (LIVE.out wd3789 BLwd3789.out).1 (fun hH2 => ?_)
       clear hK K hH
       have hH := hH2
       clear hH2
       try simp only [Act.put, List.setIfInBounds_toArray, List.set_cons_zero, List.set_cons_succ]
       have TB := hid (two_boxes B8wd3789.out B9wd3789.out N89.out DAwd3789.out DBwd3789.out)
       have x0 : wd3789.cell? ⟨X13, 0, none⟩ = some (.slice none 0 0) := cell_of_cells B8wd3789.out
       have x1 : wd3789.cell? ⟨X13, 1, none⟩ = some (.slice none 0 0) := cell_of_cells B8wd3789.out
       have x2 : wd3789.frozen? ⟨X13, 0, none⟩ = false := frozen_of_cells B8wd3789.out
       have x3 : wd3789.frozen? ⟨X13, 1, none⟩ = false := frozen_of_cells B8wd3789.out
       have BZ := hid ((BLwd3789.out).trans (TB.out.2.2.2.2.1.below (fun g _ e => by have := G89.out; rcases e with e | e <;> omega) BLwd3789.out.size))
       have TM := hid (one_box (x := .slice aa (dkP P L).length aq) (y := .slice ab (dkS S L).length bq) B8wd3789.out B9wd3789.out N89.out)
       clear B8wd3789 DAwd3789 DBwd3789
       refine rq 10 (by kernel_rfl) rfl (fun K hK => ?_)
       go_simp
       refine hK.out _ _ (by have := (LIVE.out _ (BLwd3789.out.trans (TM.out.2.1.below (fun g _ (e : g = X13) => by have := G89.out; omega) BLwd3789.out.size))).1; exact this) (fun hH2 => ?_)
       clear hK K hH x0 x1 x2 x3
       have hH := hH2
       clear hH2
       try simp only [Act.put, List.setIfInBounds_toArray, List.set_cons_zero, List.set_cons_succ]
       obtain ⟨y0, y1, y2, y3⟩ := TM.out.1
       refine rq 11 (by kernel_rfl) rfl (fun K hK => ?_)
       go_simp
       refine hK.out _ _ (by have := (LIVE.out _ BZ.out).1; exact this) (fun hH2 => ?_)
       clear hK K hH hH2 y0 y1 y2 y3
       try simp only [Act.put, List.setIfInBounds_toArray, List.set_cons_zero, List.set_cons_succ]
       refine wpAnyH_done (by kernel_rfl) ?_ _
       go_wp2_with fail
       go_meet
       case rel => exact ⟨X13, X14, aa, ba, aq, cq, rfl, rfl, TB.out.2.2.1, TB.out.2.2.2.1, TB.out.1.row.1, TB.out.2.1.row.1, (LIVE.out _ BZ.out).2.2.2⟩
      ·go_simp
       have bb9 := bel_new wd37 (.cells #[.slice none 0 0, .slice none 0 0] 27)
       have nn9 := heap_alloc_new wd37 (.cells #[.slice none 0 0, .slice none 0 0] 27)
       have DAwd379 := hid (DAwd37.out.chg (Chg.of_below (F := fun _ => False) bb9) (fun _ _ e => e) (fun _ _ e => e))
       have DBwd379 := hid (DBwd37.out.chg (Chg.of_below (F := fun _ => False) bb9) (fun _ _ e => e) (fun _ _ e => e))
       have BLwd379 := hid (BLwd37.out.trans (bb9.mono BLwd37.out.size))
       have B9wd379 := hid nn9
       have G9 := hid (show V10.heap.size ≤ wd37.heap.size from BLwd37.out.size)
       clear nn9
       clear BLwd37 DAwd37 DBwd37 bb9
       generalize wd37.heap.size = X14 at *
       generalize wd37.alloc (.cells #[.slice none 0 0, .slice none 0 0] 27) = wd379 at *
       refine hK.out _ _ (LIVE.out wd379 BLwd379.out).1 (fun hH2 => ?_)
       clear hK K hH
       have hH := hH2
       clear hH2
       try simp only [Act.put, List.setIfInBounds_toArray, List.set_cons_zero, List.set_cons_succ]
       refine rq 8 (by kernel_rfl) rfl (fun K hK => ?_)
       go_simp
       have bb9 := bel_new wd379 (.cells #[.slice none 0 0, .slice none 0 0] 27)
       have nn9 := heap_alloc_new wd379 (.cells #[.slice none 0 0, .slice none 0 0] 27)
       have DAwd3798 := hid (DAwd379.out.chg (Chg.of_below (F := fun _ => False) bb9) (fun _ _ e => e) (fun _ _ e => e))
       have DBwd3798 := hid (DBwd379.out.chg (Chg.of_below (F := fun _ => False) bb9) (fun _ _ e => e) (fun _ _ e => e))
       have B9wd3798 := hid (row_chg B9wd379.out (Chg.of_below (F := fun _ => False) bb9) id)
       have BLwd3798 := hid (BLwd379.out.trans (bb9.mono BLwd379.out.size))
       have B8wd3798 := hid nn9
       have G8 := hid (show V10.heap.size ≤ wd379.heap.size from BLwd379.out.size)
       have lt9 := (Array.getElem?_eq_some_iff.1 B9wd379.out).1
       have N89 : Hid (wd379.heap.size ≠ X14) := by show _ ≠ _; omega
       have G89 : Hid (V10.heap.size ≤ wd379.heap.size ∧ V10.heap.size ≤ X14) := ⟨G8.out, G9.out⟩
       clear lt9
       clear nn9
       clear BLwd379 DAwd379 DBwd379 B9wd379 bb9
       generalize wd379.heap.size = X13 at *
       generalize wd379.alloc (.cells #[.slice none 0 0, .slice none 0 0] 27) = wd3798 at *
       refine hK.out _ _ (LIVE.out wd3798 BLwd3798.out).1 (fun hH2 => ?_)
       clear hK K hH
       have hH := hH2
       clear hH2
       try simp only [Act.put, List.setIfInBounds_toArray, List.set_cons_zero, List.set_cons_succ]
       have TB := hid (two_boxes B8wd3798.out B9wd3798.out N89.out DAwd3798.out DBwd3798.out)
       have x0 : wd3798.cell? ⟨X13, 0, none⟩ = some (.slice none 0 0) := cell_of_cells B8wd3798.out
       have x1 : wd3798.cell? ⟨X13, 1, none⟩ = some (.slice none 0 0) := cell_of_cells B8wd3798.out
       have x2 : wd3798.frozen? ⟨X13, 0, none⟩ = false := frozen_of_cells B8wd3798.out
       have x3 : wd3798.frozen? ⟨X13, 1, none⟩ = false := frozen_of_cells B8wd3798.out
       have BZ := hid ((BLwd3798.out).trans (TB.out.2.2.2.2.1.below (fun g _ e => by have := G89.out; rcases e with e | e <;> omega) BLwd3798.out.size))
       have TM := hid (one_box (x := .slice aa (dkP P L).length aq) (y := .slice ab (dkS S L).length bq) B8wd3798.out B9wd3798.out N89.out)
       clear B8wd3798 DAwd3798 DBwd3798
       refine rq 10 (by kernel_rfl) rfl (fun K hK => ?_)
       go_simp
       refine hK.out _ _ (by have := (LIVE.out _ (BLwd3798.out.trans (TM.out.2.1.below (fun g _ (e : g = X13) => by have := G89.out; omega) BLwd3798.out.size))).1; exact this) (fun hH2 => ?_)
       clear hK K hH x0 x1 x2 x3
       have hH := hH2
       clear hH2
       try simp only [Act.put, List.setIfInBounds_toArray, List.set_cons_zero, List.set_cons_succ]
       obtain ⟨y0, y1, y2, y3⟩ := TM.out.1
       refine rq 11 (by kernel_rfl) rfl (fun K hK => ?_)
       go_simp
       refine hK.out _ _ (by have := (LIVE.out _ BZ.out).1; exact this) (fun hH2 => ?_)
       clear hK K hH hH2 y0 y1 y2 y3
       try simp only [Act.put, List.setIfInBounds_toArray, List.set_cons_zero, List.set_cons_succ]
       refine wpAnyH_done (by kernel_rfl) ?_ _
       go_wp2_with fail
       go_meet
       case rel => exact ⟨X13, X14, aa, ba, aq, cq, rfl, rfl, TB.out.2.2.1, TB.out.2.2.2.1, TB.out.1.row.1, TB.out.2.1.row.1, (LIVE.out _ BZ.out).2.2.2⟩
     ·go_simp
      have bb9 := bel_new wd3 (.cells #[.slice none 0 0, .slice none 0 0] 27)
      have nn9 := heap_alloc_new wd3 (.cells #[.slice none 0 0, .slice none 0 0] 27)
      have DAwd38 := hid (DAwd3.out.chg (Chg.of_below (F := fun _ => False) bb9) (fun _ _ e => e) (fun _ _ e => e))
      have BLwd38 := hid (BLwd3.out.trans (bb9.mono BLwd3.out.size))
      have B8wd38 := hid nn9
      have G8 := hid (show V10.heap.size ≤ wd3.heap.size from BLwd3.out.size)
      clear nn9
      clear BLwd3 DAwd3 bb9
      generalize wd3.heap.size = X13 at *
      generalize wd3.alloc (.cells #[.slice none 0 0, .slice none 0 0] 27) = wd38 at *
      refine hK.out _ _ (LIVE.out wd38 BLwd38.out).1 (fun hH2 => ?_)
      clear hK K hH
      have hH := hH2
      clear hH2
      try simp only [Act.put, List.setIfInBounds_toArray, List.set_cons_zero, List.set_cons_succ]
      refine wpAnyH_ready (rs := [7, 9]) (by kernel_rfl) (by simp) ?_
      refine AllReadyH.cons (o := ⟨_, _, _, _, _, _⟩) rfl (fun K hK => ?_) (AllReadyH.cons (o := ⟨_, _, _, _, _, _⟩) rfl (fun K hK => ?_) AllReadyH.nil)
      ·have HC := hid (specSome_any _ P S _ l _ tb wd38 (LIVE.out wd38 BLwd38.out).2.1 (LIVE.out wd38 BLwd38.out).2.2.1.1 (LIVE.out wd38 BLwd38.out).2.2.1.2 LEN.out.1 LEN.out.2.1 LEN.out.2.2 (fun x hx => (HOK.out x hx).1))
       refine step_func rfl 10 [.tmp 105, .tmp 106, .tmp 107] #[27, 28, 36] rfl runSSome [.agg #[.slice pa P.length pq, .slice sa S.length sq], .slice la l.length lq, .slice ta tb.length tq'] rfl HC.out ?_
       rintro e wd387 ⟨vr, rfl, oo, bb9⟩
       rw [HL.out] at oo
       have oe := oo
       obtain ⟨ba, cq, bb, dq, hvr⟩ := oe.shapeR
       subst hvr
       refine ⟨_, rfl, ?_⟩
       have DBwd387 := hid (oe.mono (Nat.zero_le _))
       have DAwd387 := hid (DAwd38.out.chg (Chg.of_below (F := fun _ => False) bb9) (fun _ _ e => e) (fun _ _ e => e))
       have B8wd387 := hid (row_chg B8wd38.out (Chg.of_below (F := fun _ => False) bb9) id)
       have BLwd387 := hid (BLwd38.out.trans (bb9.mono BLwd38.out.size))
       clear BLwd38 DAwd38 B8wd38 bb9 HC oo oe
       refine hK.out _ _ (LIVE.out wd387 BLwd387.out).1 (fun hH2 => ?_)
       clear hK K hH
       have hH := hH2
       clear hH2
       try simp only [Act.put, List.setIfInBounds_toArray, List.set_cons_zero, List.set_cons_succ]
       refine rq 9 (by kernel_rfl) rfl (fun K hK => ?_)
       go_simp
       have bb9 := bel_new wd387 (.cells #[.slice none 0 0, .slice none 0 0] 27)
       have nn9 := heap_alloc_new wd387 (.cells #[.slice none 0 0, .slice none 0 0] 27)
       have DAwd3879 := hid (DAwd387.out.chg (Chg.of_below (F := fun _ => False) bb9) (fun _ _ e => e) (fun _ _ e => e))
       have DBwd3879 := hid (DBwd387.out.chg (Chg.of_below (F := fun _ => False) bb9) (fun _ _ e => e) (fun _ _ e => e))
       have B8wd3879 := hid (row_chg B8wd387.out (Chg.of_below (F := fun _ => False) bb9) id)
       have BLwd3879 := hid (BLwd387.out.trans (bb9.mono BLwd387.out.size))
       have B9wd3879 := hid nn9
       have G9 := hid (show V10.heap.size ≤ wd387.heap.size from BLwd387.out.size)
       have lt9 := (Array.getElem?_eq_some_iff.1 B8wd387.out).1
       have N89 : Hid (X13 ≠ wd387.heap.size) := by show _ ≠ _; omega
       have G89 : Hid (V10.heap.size ≤ X13 ∧ V10.heap.size ≤ wd387.heap.size) := ⟨G8.out, G9.out⟩
       clear lt9
       clear nn9
       clear BLwd387 DAwd387 DBwd387 B8wd387 bb9
       generalize wd387.heap.size = X14 at *
       generalize wd387.alloc (.cells #[.slice none 0 0, .slice none 0 0] 27) = wd3879 at *
       refine hK.out _ _ (LIVE.out wd3879 BLwd3879.out).1 (fun hH2 => ?_)
       clear hK K hH
       have hH := hH2
       clear hH2
       try simp only [Act.put, List.setIfInBounds_toArray, List.set_cons_zero, List.set_cons_succ]
       have TB := hid (two_boxes B8wd3879.out B9wd3879.out N89.out DAwd3879.out DBwd3879.out)
       have x0 : wd3879.cell? ⟨X13, 0, none⟩ = some (.slice none 0 0) := cell_of_cells B8wd3879.out
       have x1 : wd3879.cell? ⟨X13, 1, none⟩ = some (.slice none 0 0) := cell_of_cells B8wd3879.out
       have x2 : wd3879.frozen? ⟨X13, 0, none⟩ = false := frozen_of_cells B8wd3879.out
       have x3 : wd3879.frozen? ⟨X13, 1, none⟩ = false := frozen_of_cells B8wd3879.out
       have BZ := hid ((BLwd3879.out).trans (TB.out.2.2.2.2.1.below (fun g _ e => by have := G89.out; rcases e with e | e <;> omega) BLwd3879.out.size))
       have TM := hid (one_box (x := .slice aa (dkP P L).length aq) (y := .slice ab (dkS S L).length bq) B8wd3879.out B9wd3879.out N89.out)
       clear B8wd3879 DAwd3879 DBwd3879
       refine rq 10 (by kernel_rfl) rfl (fun K hK => ?_)
       go_simp
       refine hK.out _ _ (by have := (LIVE.out _ (BLwd3879.out.trans (TM.out.2.1.below (fun g _ (e : g = X13) => by have := G89.out; omega) BLwd3879.out.size))).1; exact this) (fun hH2 => ?_)
       clear hK K hH x0 x1 x2 x3
       have hH := hH2
       clear hH2
       try simp only [Act.put, List.setIfInBounds_toArray, List.set_cons_zero, List.set_cons_succ]
       obtain ⟨y0, y1, y2, y3⟩ := TM.out.1
       refine rq 11 (by kernel_rfl) rfl (fun K hK => ?_)
       go_simp
       refine hK.out _ _ (by have := (LIVE.out _ BZ.out).1; exact this) (fun hH2 => ?_)
       clear hK K hH hH2 y0 y1 y2 y3
       try simp only [Act.put, List.setIfInBounds_toArray, List.set_cons_zero, List.set_cons_succ]
       refine wpAnyH_done (by kernel_rfl) ?_ _
       go_wp2_with fail
       go_meet
       case rel => exact ⟨X13, X14, aa, ba, aq, cq, rfl, rfl, TB.out.2.2.1, TB.out.2.2.2.1, TB.out.1.row.1, TB.out.2.1.row.1, (LIVE.out _ BZ.out).2.2.2⟩
      ·go_simp
       have bb9 := bel_new wd38 (.cells #[.slice none 0 0, .slice none 0 0] 27)
       have nn9 := heap_alloc_new wd38 (.cells #[.slice none 0 0, .slice none 0 0] 27)
       have DAwd389 := hid (DAwd38.out.chg (Chg.of_below (F := fun _ => False) bb9) (fun _ _ e => e) (fun _ _ e => e))
       have B8wd389 := hid (row_chg B8wd38.out (Chg.of_below (F := fun _ => False) bb9) id)
       have BLwd389 := hid (BLwd38.out.trans (bb9.mono BLwd38.out.size))
       have B9wd389 := hid nn9
       have G9 := hid (show V10.heap.size ≤ wd38.heap.size from BLwd38.out.size)
       have lt9 := (Array.getElem?_eq_some_iff.1 B8wd38.out).1
       have N89 : Hid (X13 ≠ wd38.heap.size) := by show _ ≠ _; omega
       have G89 : Hid (V10.heap.size ≤ X13 ∧ V10.heap.size ≤ wd38.heap.size) := ⟨G8.out, G9.out⟩
       clear lt9
       clear nn9
       clear BLwd38 DAwd38 B8wd38 bb9
       generalize wd38.heap.size = X14 at *
       generalize wd38.alloc (.cells #[.slice none 0 0, .slice none 0 0] 27) = wd389 at *
       refine hK.out _ _ (LIVE.out wd389 BLwd389.out).1 (fun hH2 => ?_)
       clear hK K hH
       have hH := hH2
       clear hH2
       try simp only [Act.put, List.setIfInBounds_toArray, List.set_cons_zero, List.set_cons_succ]
       refine rq 7 (by kernel_rfl) rfl (fun K hK => ?_)
       have HC := hid (specSome_any _ P S _ l _ tb wd389 (LIVE.out wd389 BLwd389.out).2.1 (LIVE.out wd389 BLwd389.out).2.2.1.1 (LIVE.out wd389 BLwd389.out).2.2.1.2 LEN.out.1 LEN.out.2.1 LEN.out.2.2 (fun x hx => (HOK.out x hx).1))
       refine step_func rfl 10 [.tmp 105, .tmp 106, .tmp 107] #[27, 28, 36] rfl runSSome [.agg #[.slice pa P.length pq, .slice sa S.length sq], .slice la l.length lq, .slice ta tb.length tq'] rfl HC.out ?_
       rintro e wd3897 ⟨vr, rfl, oo, bb9⟩
       rw [HL.out] at oo
       have oe := oo
       obtain ⟨ba, cq, bb, dq, hvr⟩ := oe.shapeR
       subst hvr
       refine ⟨_, rfl, ?_⟩
       have DBwd3897 := hid (oe.mono (Nat.zero_le _))
       have DAwd3897 := hid (DAwd389.out.chg (Chg.of_below (F := fun _ => False) bb9) (fun _ _ e => e) (fun _ _ e => e))
       have B8wd3897 := hid (row_chg B8wd389.out (Chg.of_below (F := fun _ => False) bb9) id)
       have B9wd3897 := hid (row_chg B9wd389.out (Chg.of_below (F := fun _ => False) bb9) id)
       have BLwd3897 := hid (BLwd389.out.trans (bb9.mono BLwd389.out.size))
       clear BLwd389 DAwd389 B8wd389 B9wd389 bb9 HC oo oe
       refine hK.out _ _ (LIVE.out wd3897 BLwd3897.out).1 (fun hH2 => ?_)
       clear hK K hH
       have hH := hH2
       clear hH2
       try simp only [Act.put, List.setIfInBounds_toArray, List.set_cons_zero, List.set_cons_succ]
       have TB := hid (two_boxes B8wd3897.out B9wd3897.out N89.out DAwd3897.out DBwd3897.out)
       have x0 : wd3897.cell? ⟨X13, 0, none⟩ = some (.slice none 0 0) := cell_of_cells B8wd3897.out
       have x1 : wd3897.cell? ⟨X13, 1, none⟩ = some (.slice none 0 0) := cell_of_cells B8wd3897.out
       have x2 : wd3897.frozen? ⟨X13, 0, none⟩ = false := frozen_of_cells B8wd3897.out
       have x3 : wd3897.frozen? ⟨X13, 1, none⟩ = false := frozen_of_cells B8wd3897.out
       have BZ := hid ((BLwd3897.out).trans (TB.out.2.2.2.2.1.below (fun g _ e => by have := G89.out; rcases e with e | e <;> omega) BLwd3897.out.size))
       have TM := hid (one_box (x := .slice aa (dkP P L).length aq) (y := .slice ab (dkS S L).length bq) B8wd3897.out B9wd3897.out N89.out)
       clear B8wd3897 DAwd3897 DBwd3897
       refine rq 10 (by kernel_rfl) rfl (fun K hK => ?_)
       go_simp
       refine hK.out _ _ (by have := (LIVE.out _ (BLwd3897.out.trans (TM.out.2.1.below (fun g _ (e : g = X13) => by have := G89.out; omega) BLwd3897.out.size))).1; exact this) (fun hH2 => ?_)
       clear hK K hH x0 x1 x2 x3
       have hH := hH2
       clear hH2
       try simp only [Act.put, List.setIfInBounds_toArray, List.set_cons_zero, List.set_cons_succ]
       obtain ⟨y0, y1, y2, y3⟩ := TM.out.1
       refine rq 11 (by kernel_rfl) rfl (fun K hK => ?_)
       go_simp
       refine hK.out _ _ (by have := (LIVE.out _ BZ.out).1; exact this) (fun hH2 => ?_)
       clear hK K hH hH2 y0 y1 y2 y3
       try simp only [Act.put, List.setIfInBounds_toArray, List.set_cons_zero, List.set_cons_succ]
       refine wpAnyH_done (by kernel_rfl) ?_ _
       go_wp2_with fail
       go_meet
       case rel => exact ⟨X13, X14, aa, ba, aq, cq, rfl, rfl, TB.out.2.2.1, TB.out.2.2.2.1, TB.out.1.row.1, TB.out.2.1.row.1, (LIVE.out _ BZ.out).2.2.2⟩
     ·go_simp
      have bb9 := bel_new wd3 (.cells #[.slice none 0 0, .slice none 0 0] 27)
      have nn9 := heap_alloc_new wd3 (.cells #[.slice none 0 0, .slice none 0 0] 27)
      have DAwd39 := hid (DAwd3.out.chg (Chg.of_below (F := fun _ => False) bb9) (fun _ _ e => e) (fun _ _ e => e))
      have BLwd39 := hid (BLwd3.out.trans (bb9.mono BLwd3.out.size))
      have B9wd39 := hid nn9
      have G9 := hid (show V10.heap.size ≤ wd3.heap.size from BLwd3.out.size)
      clear nn9
      clear BLwd3 DAwd3 bb9
      generalize wd3.heap.size = X14 at *
      generalize wd3.alloc (.cells #[.slice none 0 0, .slice none 0 0] 27) = wd39 at *
      refine hK.out _ _ (LIVE.out wd39 BLwd39.out).1 (fun hH2 => ?_)
      clear hK K hH
      have hH := hH2
      clear hH2
      try simp only [Act.put, List.setIfInBounds_toArray, List.set_cons_zero, List.set_cons_succ]
      refine wpAnyH_ready (rs := [7, 8]) (by kernel_rfl) (by simp) ?_
      refine AllReadyH.cons (o := ⟨_, _, _, _, _, _⟩) rfl (fun K hK => ?_) (AllReadyH.cons (o := ⟨_, _, _, _, _, _⟩) rfl (fun K hK => ?_) AllReadyH.nil)
      ·have HC := hid (specSome_any _ P S _ l _ tb wd39 (LIVE.out wd39 BLwd39.out).2.1 (LIVE.out wd39 BLwd39.out).2.2.1.1 (LIVE.out wd39 BLwd39.out).2.2.1.2 LEN.out.1 LEN.out.2.1 LEN.out.2.2 (fun x hx => (HOK.out x hx).1))
       refine step_func rfl 10 [.tmp 105, .tmp 106, .tmp 107] #[27, 28, 36] rfl runSSome [.agg #[.slice pa P.length pq, .slice sa S.length sq], .slice la l.length lq, .slice ta tb.length tq'] rfl HC.out ?_
       rintro e wd397 ⟨vr, rfl, oo, bb9⟩
       rw [HL.out] at oo
       have oe := oo
       obtain ⟨ba, cq, bb, dq, hvr⟩ := oe.shapeR
       subst hvr
       refine ⟨_, rfl, ?_⟩
       have DBwd397 := hid (oe.mono (Nat.zero_le _))
       have DAwd397 := hid (DAwd39.out.chg (Chg.of_below (F := fun _ => False) bb9) (fun _ _ e => e) (fun _ _ e => e))
       have B9wd397 := hid (row_chg B9wd39.out (Chg.of_below (F := fun _ => False) bb9) id)
       have BLwd397 := hid (BLwd39.out.trans (bb9.mono BLwd39.out.size))
       clear BLwd39 DAwd39 B9wd39 bb9 HC oo oe
       refine hK.out _ _ (LIVE.out wd397 BLwd397.out).1 (fun hH2 => ?_)
       clear hK K hH
       have hH := hH2
       clear hH2
       try simp only [Act.put, List.setIfInBounds_toArray, List.set_cons_zero, List.set_cons_succ]
       refine rq 8 (by kernel_rfl) rfl (fun K hK => ?_)
       go_simp
       have bb9 := bel_new wd397 (.cells #[.slice none 0 0, .slice none 0 0] 27)
       have nn9 := heap_alloc_new wd397 (.cells #[.slice none 0 0, .slice none 0 0] 27)
       have DAwd3978 := hid (DAwd397.out.chg (Chg.of_below (F := fun _ => False) bb9) (fun _ _ e => e) (fun _ _ e => e))
       have DBwd3978 := hid (DBwd397.out.chg (Chg.of_below (F := fun _ => False) bb9) (fun _ _ e => e) (fun _ _ e => e))
       have B9wd3978 := hid (row_chg B9wd397.out (Chg.of_below (F := fun _ => False) bb9) id)
       have BLwd3978 := hid (BLwd397.out.trans (bb9.mono BLwd397.out.size))
       have B8wd3978 := hid nn9
       have G8 := hid (show V10.heap.size ≤ wd397.heap.size from BLwd397.out.size)
       have lt9 := (Array.getElem?_eq_some_iff.1 B9wd397.out).1
       have N89 : Hid (wd397.heap.size ≠ X14) := by show _ ≠ _; omega
       have G89 : Hid (V10.heap.size ≤ wd397.heap.size ∧ V10.heap.size ≤ X14) := ⟨G8.out, G9.out⟩
       clear lt9
       clear nn9
       clear BLwd397 DAwd397 DBwd397 B9wd397 bb9
       generalize wd397.heap.size = X13 at *
       generalize wd397.alloc (.cells #[.slice none 0 0, .slice none 0 0] 27) = wd3978 at *
       refine hK.out _ _ (LIVE.out wd3978 BLwd3978.out).1 (fun hH2 => ?_)
       clear hK K hH
       have hH := hH2
       clear hH2
       try simp only [Act.put, List.setIfInBounds_toArray, List.set_cons_zero, List.set_cons_succ]
       have TB := hid (two_boxes B8wd3978.out B9wd3978.out N89.out DAwd3978.out DBwd3978.out)
       have x0 : wd3978.cell? ⟨X13, 0, none⟩ = some (.slice none 0 0) := cell_of_cells B8wd3978.out
       have x1 : wd3978.cell? ⟨X13, 1, none⟩ = some (.slice none 0 0) := cell_of_cells B8wd3978.out
       have x2 : wd3978.frozen? ⟨X13, 0, none⟩ = false := frozen_of_cells B8wd3978.out
       have x3 : wd3978.frozen? ⟨X13, 1, none⟩ = false := frozen_of_cells B8wd3978.out
       have BZ := hid ((BLwd3978.out).trans (TB.out.2.2.2.2.1.below (fun g _ e => by have := G89.out; rcases e with e | e <;> omega) BLwd3978.out.size))
       have TM := hid (one_box (x := .slice aa (dkP P L).length aq) (y := .slice ab (dkS S L).length bq) B8wd3978.out B9wd3978.out N89.out)
       clear B8wd3978 DAwd3978 DBwd3978
       refine rq 10 (by kernel_rfl) rfl (fun K hK => ?_)
       go_simp
       refine hK.out _ _ (by have := (LIVE.out _ (BLwd3978.out.trans (TM.out.2.1.below (fun g _ (e : g = X13) => by have := G89.out; omega) BLwd3978.out.size))).1; exact this) (fun hH2 => ?_)
       clear hK K hH x0 x1 x2 x3
       have hH := hH2
       clear hH2
       try simp only [Act.put, List.setIfInBounds_toArray, List.set_cons_zero, List.set_cons_succ]
       obtain ⟨y0, y1, y2, y3⟩ := TM.out.1
       refine rq 11 (by kernel_rfl) rfl (fun K hK => ?_)
       go_simp
       refine hK.out _ _ (by have := (LIVE.out _ BZ.out).1; exact this) (fun hH2 => ?_)
       clear hK K hH hH2 y0 y1 y2 y3
       try simp only [Act.put, List.setIfInBounds_toArray, List.set_cons_zero, List.set_cons_succ]
       refine wpAnyH_done (by kernel_rfl) ?_ _
       go_wp2_with fail
       go_meet
       case rel => exact ⟨X13, X14, aa, ba, aq, cq, rfl, rfl, TB.out.2.2.1, TB.out.2.2.2.1, TB.out.1.row.1, TB.out.2.1.row.1, (LIVE.out _ BZ.out).2.2.2⟩
      ·go_simp
       have bb9 := bel_new wd39 (.cells #[.slice none 0 0, .slice none 0 0] 27)
       have nn9 := heap_alloc_new wd39 (.cells #[.slice none 0 0, .slice none 0 0] 27)
       have DAwd398 := hid (DAwd39.out.chg (Chg.of_below (F := fun _ => False) bb9) (fun _ _ e => e) (fun _ _ e => e))
       have B9wd398 := hid (row_chg B9wd39.out (Chg.of_below (F := fun _ => False) bb9) id)
       have BLwd398 := hid (BLwd39.out.trans (bb9.mono BLwd39.out.size))
       have B8wd398 := hid nn9
       have G8 := hid (show V10.heap.size ≤ wd39.heap.size from BLwd39.out.size)
       have lt9 := (Array.getElem?_eq_some_iff.1 B9wd39.out).1
       have N89 : Hid (wd39.heap.size ≠ X14) := by show _ ≠ _; omega
       have G89 : Hid (V10.heap.size ≤ wd39.heap.size ∧ V10.heap.size ≤ X14) := ⟨G8.out, G9.out⟩
       clear lt9
       clear nn9
       clear BLwd39 DAwd39 B9wd39 bb9
       generalize wd39.heap.size = X13 at *
       generalize wd39.alloc (.cells #[.slice none 0 0, .slice none 0 0] 27) = wd398 at *
       refine hK.out _ _ (LIVE.out wd398 BLwd398.out).1 (fun hH2 => ?_)
       clear hK K hH
       have hH := hH2
       clear hH2
       try simp only [Act.put, List.setIfInBounds_toArray, List.set_cons_zero, List.set_cons_succ]
       refine rq 7 (by kernel_rfl) rfl (fun K hK => ?_)
       have HC := hid (specSome_any _ P S _ l _ tb wd398 (LIVE.out wd398 BLwd398.out).2.1 (LIVE.out wd398 BLwd398.out).2.2.1.1 (LIVE.out wd398 BLwd398.out).2.2.1.2 LEN.out.1 LEN.out.2.1 LEN.out.2.2 (fun x hx => (HOK.out x hx).1))
       refine step_func rfl 10 [.tmp 105, .tmp 106, .tmp 107] #[27, 28, 36] rfl runSSome [.agg #[.slice pa P.length pq, .slice sa S.length sq], .slice la l.length lq, .slice ta tb.length tq'] rfl HC.out ?_
       rintro e wd3987 ⟨vr, rfl, oo, bb9⟩
       rw [HL.out] at oo
       have oe := oo
       obtain ⟨ba, cq, bb, dq, hvr⟩ := oe.shapeR
       subst hvr
       refine ⟨_, rfl, ?_⟩
       have DBwd3987 := hid (oe.mono (Nat.zero_le _))
       have DAwd3987 := hid (DAwd398.out.chg (Chg.of_below (F := fun _ => False) bb9) (fun _ _ e => e) (fun _ _ e => e))
       have B8wd3987 := hid (row_chg B8wd398.out (Chg.of_below (F := fun _ => False) bb9) id)
       have B9wd3987 := hid (row_chg B9wd398.out (Chg.of_below (F := fun _ => False) bb9) id)
       have BLwd3987 := hid (BLwd398.out.trans (bb9.mono BLwd398.out.size))
       clear BLwd398 DAwd398 B8wd398 B9wd398 bb9 HC oo oe
       refine hK.out _ _ (LIVE.out wd3987 BLwd3987.out).1 (fun hH2 => ?_)
       clear hK K hH
       have hH := hH2
       clear hH2
       try simp only [Act.put, List.setIfInBounds_toArray, List.set_cons_zero, List.set_cons_succ]
       have TB := hid (two_boxes B8wd3987.out B9wd3987.out N89.out DAwd3987.out DBwd3987.out)
       have x0 : wd3987.cell? ⟨X13, 0, none⟩ = some (.slice none 0 0) := cell_of_cells B8wd3987.out
       have x1 : wd3987.cell? ⟨X13, 1, none⟩ = some (.slice none 0 0) := cell_of_cells B8wd3987.out
       have x2 : wd3987.frozen? ⟨X13, 0, none⟩ = false := frozen_of_cells B8wd3987.out
       have x3 : wd3987.frozen? ⟨X13, 1, none⟩ = false := frozen_of_cells B8wd3987.out
       have BZ := hid ((BLwd3987.out).trans (TB.out.2.2.2.2.1.below (fun g _ e => by have := G89.out; rcases e with e | e <;> omega) BLwd3987.out.size))
       have TM := hid (one_box (x := .slice aa (dkP P L).length aq) (y := .slice ab (dkS S L).length bq) B8wd3987.out B9wd3987.out N89.out)
       clear B8wd3987 DAwd3987 DBwd3987
       refine rq 10 (by kernel_rfl) rfl (fun K hK => ?_)
       go_simp
       refine hK.out _ _ (by have := (LIVE.out _ (BLwd3987.out.trans (TM.out.2.1.below (fun g _ (e : g = X13) => by have := G89.out; omega) BLwd3987.out.size))).1; exact this) (fun hH2 => ?_)
       clear hK K hH x0 x1 x2 x3
       have hH := hH2
       clear hH2
       try simp only [Act.put, List.setIfInBounds_toArray, List.set_cons_zero, List.set_cons_succ]
       obtain ⟨y0, y1, y2, y3⟩ := TM.out.1
       refine rq 11 (by kernel_rfl) rfl (fun K hK => ?_)
       go_simp
       refine hK.out _ _ (by have := (LIVE.out _ BZ.out).1; exact this) (fun hH2 => ?_)
       clear hK K hH hH2 y0 y1 y2 y3
       try simp only [Act.put, List.setIfInBounds_toArray, List.set_cons_zero, List.set_cons_succ]
       refine wpAnyH_done (by kernel_rfl) ?_ _
       go_wp2_with fail
       go_meet
       case rel => exact ⟨X13, X14, aa, ba, aq, cq, rfl, rfl, TB.out.2.2.1, TB.out.2.2.2.1, TB.out.1.row.1, TB.out.2.1.row.1, (LIVE.out _ BZ.out).2.2.2⟩
    ·go_simp
     have bb9 := bel_new wd (.cells #[.slice none 0 0, .slice none 0 0] 27)
     have nn9 := heap_alloc_new wd (.cells #[.slice none 0 0, .slice none 0 0] 27)
     have BLwd8 := hid (BLwd.out.trans (bb9.mono BLwd.out.size))
     have B8wd8 := hid nn9
     have G8 := hid (show V10.heap.size ≤ wd.heap.size from BLwd.out.size)
     clear nn9
     clear BLwd bb9
     generalize wd.heap.size = X13 at *
     generalize wd.alloc (.cells #[.slice none 0 0, .slice none 0 0] 27) = wd8 at *
     refine hK.out _ _ (LIVE.out wd8 BLwd8.out).1 (fun hH2 => ?_)
     clear hK K hH
     have hH := hH2
     clear hH2
     try simp only [Act.put, List.setIfInBounds_toArray, List.set_cons_zero, List.set_cons_succ]
     refine wpAnyH_ready (rs := [3, 9]) (by kernel_rfl) (by simp) ?_
     refine AllReadyH.cons (o := ⟨_, _, _, _, _, _⟩) rfl (fun K hK => ?_) (AllReadyH.cons (o := ⟨_, _, _, _, _, _⟩) rfl (fun K hK => ?_) AllReadyH.nil)
     ·have HC := hid (implSome_any _ P S _ l _ tb wd8 (LIVE.out wd8 BLwd8.out).2.1 (LIVE.out wd8 BLwd8.out).2.2.1.1 (LIVE.out wd8 BLwd8.out).2.2.1.2 LEN.out.1 LEN.out.2.1 LEN.out.2.2 (fun x hx => (HOK.out x hx).1))
      refine step_func rfl 9 [.tmp 101, .tmp 102, .tmp 103] #[27, 28, 36] rfl runISome [.agg #[.slice pa P.length pq, .slice sa S.length sq], .slice la l.length lq, .slice ta tb.length tq'] rfl HC.out ?_
      rintro e wd83 ⟨vr, rfl, oo, bb9⟩
      rw [HL.out] at oo
      have oe := oo.toE
      obtain ⟨aa, aq, ab, bq, hvr⟩ := oe.shapeR
      subst hvr
      refine ⟨_, rfl, ?_⟩
      have DAwd83 := hid (oe.mono (Nat.zero_le _))
      have B8wd83 := hid (row_chg B8wd8.out (Chg.of_below (F := fun _ => False) bb9) id)
      have BLwd83 := hid (BLwd8.out.trans (bb9.mono BLwd8.out.size))
      clear BLwd8 B8wd8 bb9 HC oo oe
      refine hK.out _ _ (LIVE.out wd83 BLwd83.out).1 (fun hH2 => ?_)
      clear hK K hH
      have hH := hH2
      clear hH2
      try simp only [Act.put, List.setIfInBounds_toArray, List.set_cons_zero, List.set_cons_succ]
      refine wpAnyH_ready (rs := [7, 9]) (by kernel_rfl) (by simp) ?_
      refine AllReadyH.cons (o := ⟨_, _, _, _, _, _⟩) rfl (fun K hK => ?_) (AllReadyH.cons (o := ⟨_, _, _, _, _, _⟩) rfl (fun K hK => ?_) AllReadyH.nil)
      ·have HC := hid (specSome_any _ P S _ l _ tb wd83 (LIVE.out wd83 BLwd83.out).2.1 (LIVE.out wd83 BLwd83.out).2.2.1.1 (LIVE.out wd83 BLwd83.out).2.2.1.2 LEN.out.1 LEN.out.2.1 LEN.out.2.2 (fun x hx => (HOK.out x hx).1))
       refine step_func rfl 10 [.tmp 105, .tmp 106, .tmp 107] #[27, 28, 36] rfl runSSome [.agg #[.slice pa P.length pq, .slice sa S.length sq], .slice la l.length lq, .slice ta tb.length tq'] rfl HC.out ?_
       rintro e wd837 ⟨vr, rfl, oo, bb9⟩
       rw [HL.out] at oo
       have oe := oo
       obtain ⟨ba, cq, bb, dq, hvr⟩ := oe.shapeR
       subst hvr
       refine ⟨_, rfl, ?_⟩
       have DBwd837 := hid (oe.mono (Nat.zero_le _))
       have DAwd837 := hid (DAwd83.out.chg (Chg.of_below (F := fun _ => False) bb9) (fun _ _ e => e) (fun _ _ e => e))
       have B8wd837 := hid (row_chg B8wd83.out (Chg.of_below (F := fun _ => False) bb9) id)
       have BLwd837 := hid (BLwd83.out.trans (bb9.mono BLwd83.out.size))
       clear BLwd83 DAwd83 B8wd83 bb9 HC oo oe
       refine hK.out _ _ (LIVE.out wd837 BLwd837.out).1 (fun hH2 => ?_)
       clear hK K hH
       have hH := hH2
       clear hH2
       try simp only [Act.put, List.setIfInBounds_toArray, List.set_cons_zero, List.set_cons_succ]
       refine rq 9 (by kernel_rfl) rfl (fun K hK => ?_)
       go_simp
       have bb9 := bel_new wd837 (.cells #[.slice none 0 0, .slice none 0 0] 27)
       have nn9 := heap_alloc_new wd837 (.cells #[.slice none 0 0, .slice none 0 0] 27)
       have DAwd8379 := hid (DAwd837.out.chg (Chg.of_below (F := fun _ => False) bb9) (fun _ _ e => e) (fun _ _ e => e))
       have DBwd8379 := hid (DBwd837.out.chg (Chg.of_below (F := fun _ => False) bb9) (fun _ _ e => e) (fun _ _ e => e))
       have B8wd8379 := hid (row_chg B8wd837.out (Chg.of_below (F := fun _ => False) bb9) id)
       have BLwd8379 := hid (BLwd837.out.trans (bb9.mono BLwd837.out.size))
       have B9wd8379 := hid nn9
       have G9 := hid (show V10.heap.size ≤ wd837.heap.size from BLwd837.out.size)
       have lt9 := (Array.getElem?_eq_some_iff.1 B8wd837.out).1
       have N89 : Hid (X13 ≠ wd837.heap.size) := by show _ ≠ _; omega
       have G89 : Hid (V10.heap.size ≤ X13 ∧ V10.heap.size ≤ wd837.heap.size) := ⟨G8.out, G9.out⟩
       clear lt9
       clear nn9
       clear BLwd837 DAwd837 DBwd837 B8wd837 bb9
       generalize wd837.heap.size = X14 at *
       generalize wd837.alloc (.cells #[.slice none 0 0, .slice none 0 0] 27) = wd8379 at *
       refine hK.out _ _ (LIVE.out wd8379 BLwd8379.out).1 (fun hH2 => ?_)
       clear hK K hH
       have hH := hH2
       clear hH2
       try simp only [Act.put, List.setIfInBounds_toArray, List.set_cons_zero, List.set_cons_succ]
       have TB := hid (two_boxes B8wd8379.out B9wd8379.out N89.out DAwd8379.out DBwd8379.out)
       have x0 : wd8379.cell? ⟨X13, 0, none⟩ = some (.slice none 0 0) := cell_of_cells B8wd8379.out
       have x1 : wd8379.cell? ⟨X13, 1, none⟩ = some (.slice none 0 0) := cell_of_cells B8wd8379.out
       have x2 : wd8379.frozen? ⟨X13, 0, none⟩ = false := frozen_of_cells B8wd8379.out
       have x3 : wd8379.frozen? ⟨X13, 1, none⟩ = false := frozen_of_cells B8wd8379.out
       have BZ := hid ((BLwd8379.out).trans (TB.out.2.2.2.2.1.below (fun g _ e => by have := G89.out; rcases e with e | e <;> omega) BLwd8379.out.size))
       have TM := hid (one_box (x := .slice aa (dkP P L).length aq) (y := .slice ab (dkS S L).length bq) B8wd8379.out B9wd8379.out N89.out)
       clear B8wd8379 DAwd8379 DBwd8379
       refine rq 10 (by kernel_rfl) rfl (fun K hK => ?_)
       go_simp
       refine hK.out _ _ (by have := (LIVE.out _ (BLwd8379.out.trans (TM.out.2.1.below (fun g _ (e : g = X13) => by have := G89.out; omega) BLwd8379.out.size))).1; exact this) (fun hH2 => ?_)
       clear hK K hH x0 x1 x2 x3
       have hH := hH2
       clear hH2
       try simp only [Act.put, List.setIfInBounds_toArray, List.set_cons_zero, List.set_cons_succ]
       obtain ⟨y0, y1, y2, y3⟩ := TM.out.1
       refine rq 11 (by kernel_rfl) rfl (fun K hK => ?_)
       go_simp
       refine hK.out _ _ (by have := (LIVE.out _ BZ.out).1; exact this) (fun hH2 => ?_)
       clear hK K hH hH2 y0 y1 y2 y3
       try simp only [Act.put, List.setIfInBounds_toArray, List.set_cons_zero, List.set_cons_succ]
       refine wpAnyH_done (by kernel_rfl) ?_ _
       go_wp2_with fail
       go_meet
       case rel => exact ⟨X13, X14, aa, ba, aq, cq, rfl, rfl, TB.out.2.2.1, TB.out.2.2.2.1, TB.out.1.row.1, TB.out.2.1.row.1, (LIVE.out _ BZ.out).2.2.2⟩
      ·go_simp
       have bb9 := bel_new wd83 (.cells #[.slice none 0 0, .slice none 0 0] 27)
       have nn9 := heap_alloc_new wd83 (.cells #[.slice none 0 0, .slice none 0 0] 27)
       have DAwd839 := hid (DAwd83.out.chg (Chg.of_below (F := fun _ => False) bb9) (fun _ _ e => e) (fun _ _ e => e))
       have B8wd839 := hid (row_chg B8wd83.out (Chg.of_below (F := fun _ => False) bb9) id)
       have BLwd839 := hid (BLwd83.out.trans (bb9.mono BLwd83.out.size))
       have B9wd839 := hid nn9
       have G9 := hid (show V10.heap.size ≤ wd83.heap.size from BLwd83.out.size)
       have lt9 := (Array.getElem?_eq_some_iff.1 B8wd83.out).1
       have N89 : Hid (X13 ≠ wd83.heap.size) := by show _ ≠ _; omega
       have G89 : Hid (V10.heap.size ≤ X13 ∧ V10.heap.size ≤ wd83.heap.size) := ⟨G8.out, G9.out⟩
       clear lt9
       clear nn9
       clear BLwd83 DAwd83 B8wd83 bb9
       generalize wd83.heap.size = X14 at *
       generalize wd83.alloc (.cells #[.slice none 0 0, .slice none 0 0] 27) = wd839 at *
       refine hK.out _ _ (LIVE.out wd839 BLwd839.out).1 (fun hH2 => ?_)
       clear hK K hH
       have hH := hH2
       clear hH2
       try simp only [Act.put, List.setIfInBounds_toArray, List.set_cons_zero, List.set_cons_succ]
       refine rq 7 (by kernel_rfl) rfl (fun K hK => ?_)
       have HC := hid (specSome_any _ P S _ l _ tb wd839 (LIVE.out wd839 BLwd839.out).2.1 (LIVE.out wd839 BLwd839.out).2.2.1.1 (LIVE.out wd839 BLwd839.out).2.2.1.2 LEN.out.1 LEN.out.2.1 LEN.out.2.2 (fun x hx => (HOK.out x hx).1))
       refine step_func rfl 10 [.tmp 105, .tmp 106, .tmp 107] #[27, 28, 36] rfl runSSome [.agg #[.slice pa P.length pq, .slice sa S.length sq], .slice la l.length lq, .slice ta tb.length tq'] rfl HC.out ?_
       rintro e wd8397 ⟨vr, rfl, oo, bb9⟩
       rw [HL.out] at oo
       have oe := oo
       obtain ⟨ba, cq, bb, dq, hvr⟩ := oe.shapeR
       subst hvr
       refine ⟨_, rfl, ?_⟩
       have DBwd8397 := hid (oe.mono (Nat.zero_le _))
       have DAwd8397 := hid (DAwd839.out.chg (Chg.of_below (F := fun _ => False) bb9) (fun _ _ e => e) (fun _ _ e => e))
       have B8wd8397 := hid (row_chg B8wd839.out (Chg.of_below (F := fun _ => False) bb9) id)
       have B9wd8397 := hid (row_chg B9wd839.out (Chg.of_below (F := fun _ => False) bb9) id)
       have BLwd8397 := hid (BLwd839.out.trans (bb9.mono BLwd839.out.size))
       clear BLwd839 DAwd839 B8wd839 B9wd839 bb9 HC oo oe
       refine hK.out _ _ (LIVE.out wd8397 BLwd8397.out).1 (fun hH2 => ?_)
       clear hK K hH
       have hH := hH2
       clear hH2
       try simp only [Act.put, List.setIfInBounds_toArray, List.set_cons_zero, List.set_cons_succ]
       have TB := hid (two_boxes B8wd8397.out B9wd8397.out N89.out DAwd8397.out DBwd8397.out)
       have x0 : wd8397.cell? ⟨X13, 0, none⟩ = some (.slice none 0 0) := cell_of_cells B8wd8397.out
       have x1 : wd8397.cell? ⟨X13, 1, none⟩ = some (.slice none 0 0) := cell_of_cells B8wd8397.out
       have x2 : wd8397.frozen? ⟨X13, 0, none⟩ = false := frozen_of_cells B8wd8397.out
       have x3 : wd8397.frozen? ⟨X13, 1, none⟩ = false := frozen_of_cells B8wd8397.out
       have BZ := hid ((BLwd8397.out).trans (TB.out.2.2.2.2.1.below (fun g _ e => by have := G89.out; rcases e with e | e <;> omega) BLwd8397.out.size))
       have TM := hid (one_box (x := .slice aa (dkP P L).length aq) (y := .slice ab (dkS S L).length bq) B8wd8397.out B9wd8397.out N89.out)
       clear B8wd8397 DAwd8397 DBwd8397
       refine rq 10 (by kernel_rfl) rfl (fun K hK => ?_)
       go_simp
       refine hK.out _ _ (by have := (LIVE.out _ (BLwd8397.out.trans (TM.out.2.1.below (fun g _ (e : g = X13) => by have := G89.out; omega) BLwd8397.out.size))).1; exact this) (fun hH2 => ?_)
       clear hK K hH x0 x1 x2 x3
       have hH := hH2
       clear hH2
       try simp only [Act.put, List.setIfInBounds_toArray, List.set_cons_zero, List.set_cons_succ]
       obtain ⟨y0, y1, y2, y3⟩ := TM.out.1
       refine rq 11 (by kernel_rfl) rfl (fun K hK => ?_)
       go_simp
       refine hK.out _ _ (by have := (LIVE.out _ BZ.out).1; exact this) (fun hH2 => ?_)
       clear hK K hH hH2 y0 y1 y2 y3
       try simp only [Act.put, List.setIfInBounds_toArray, List.set_cons_zero, List.set_cons_succ]
       refine wpAnyH_done (by kernel_rfl) ?_ _
       go_wp2_with fail
       go_meet
       case rel => exact ⟨X13, X14, aa, ba, aq, cq, rfl, rfl, TB.out.2.2.1, TB.out.2.2.2.1, TB.out.1.row.1, TB.out.2.1.row.1, (LIVE.out _ BZ.out).2.2.2⟩
     ·go_simp
      have bb9 := bel_new wd8 (.cells #[.slice none 0 0, .slice none 0 0] 27)
      have nn9 := heap_alloc_new wd8 (.cells #[.slice none 0 0, .slice none 0 0] 27)
      have B8wd89 := hid (row_chg B8wd8.out (Chg.of_below (F := fun _ => False) bb9) id)
      have BLwd89 := hid (BLwd8.out.trans (bb9.mono BLwd8.out.size))
      have B9wd89 := hid nn9
      have G9 := hid (show V10.heap.size ≤ wd8.heap.size from BLwd8.out.size)
      have lt9 := (Array.getElem?_eq_some_iff.1 B8wd8.out).1
      have N89 : Hid (X13 ≠ wd8.heap.size) := by show _ ≠ _; omega
      have G89 : Hid (V10.heap.size ≤ X13 ∧ V10.heap.size ≤ wd8.heap.size) := ⟨G8.out, G9.out⟩
      clear lt9
      clear nn9
      clear BLwd8 B8wd8 bb9
      generalize wd8.heap.size = X14 at *
      generalize wd8.alloc (.cells #[.slice none 0 0, .slice none 0 0] 27) = wd89 at *
      refine hK.out _ _ (LIVE.out wd89 BLwd89.out).1 (fun hH2 => ?_)
      clear hK K hH
      have hH := hH2
      clear hH2
      try simp only [Act.put, List.setIfInBounds_toArray, List.set_cons_zero, List.set_cons_succ]
      refine rq 3 (by kernel_rfl) rfl (fun K hK => ?_)
      have HC := hid (implSome_any _ P S _ l _ tb wd89 (LIVE.out wd89 BLwd89.out).2.1 (LIVE.out wd89 BLwd89.out).2.2.1.1 (LIVE.out wd89 BLwd89.out).2.2.1.2 LEN.out.1 LEN.out.2.1 LEN.out.2.2 (fun x hx => (HOK.out x hx).1))
      refine step_func rfl 9 [.tmp 101, .tmp 102, .tmp 103] #[27, 28, 36] rfl runISome [.agg #[.slice pa P.length pq, .slice sa S.length sq], .slice la l.length lq, .slice ta tb.length tq'] rfl HC.out ?_
      rintro e wd893 ⟨vr, rfl, oo, bb9⟩
      rw [HL.out] at oo
      have oe := oo.toE
      obtain ⟨aa, aq, ab, bq, hvr⟩ := oe.shapeR
      subst hvr
      refine ⟨_, rfl, ?_⟩
      have DAwd893 := hid (oe.mono (Nat.zero_le _))
      have B8wd893 := hid (row_chg B8wd89.out (Chg.of_below (F := fun _ => False) bb9) id)
      have B9wd893 := hid (row_chg B9wd89.out (Chg.of_below (F := fun _ => False) bb9) id)
      have BLwd893 := hid (BLwd89.out.trans (bb9.mono BLwd89.out.size))
      clear BLwd89 B8wd89 B9wd89 bb9 HC oo oe
      refine hK.out _ _ (LIVE.out wd893 BLwd893.out).1 (fun hH2 => ?_)
      clear hK K hH
      have hH := hH2
      clear hH2
      try simp only [Act.put, List.setIfInBounds_toArray, List.set_cons_zero, List.set_cons_succ]
      refine rq 7 (by kernel_rfl) rfl (fun K hK => ?_)
      have HC := hid (specSome_any _ P S _ l _ tb wd893 (LIVE.out wd893 BLwd893.out).2.1 (LIVE.out wd893 BLwd893.out).2.2.1.1 (LIVE.out wd893 BLwd893.out).2.2.1.2 LEN.out.1 LEN.out.2.1 LEN.out.2.2 (fun x hx => (HOK.out x hx).1))
      refine step_func rfl 10 [.tmp 105, .tmp 106, .tmp 107] #[27, 28, 36] rfl runSSome [.agg #[.slice pa P.length pq, .slice sa S.length sq], .slice la l.length lq, .slice ta tb.length tq'] rfl HC.out ?_
      rintro e wd8937 ⟨vr, rfl, oo, bb9⟩
      rw [HL.out] at oo
      have oe := oo
      obtain ⟨ba, cq, bb, dq, hvr⟩ := oe.shapeR
      subst hvr
      refine ⟨_, rfl, ?_⟩
      have DBwd8937 := hid (oe.mono (Nat.zero_le _))
      have DAwd8937 := hid (DAwd893.out.chg (Chg.of_below (F := fun _ => False) bb9) (fun _ _ e => e) (fun _ _ e => e))
      have B8wd8937 := hid (row_chg B8wd893.out (Chg.of_below (F := fun _ => False) bb9) id)
      have B9wd8937 := hid (row_chg B9wd893.out (Chg.of_below (F := fun _ => False) bb9) id)
      have BLwd8937 := hid (BLwd893.out.trans (bb9.mono BLwd893.out.size))
      clear BLwd893 DAwd893 B8wd893 B9wd893 bb9 HC oo oe
      refine hK.out _ _ (LIVE.out wd8937 BLwd8937.out).1 (fun hH2 => ?_)
      clear hK K hH
      have hH := hH2
      clear hH2
      try simp only [Act.put, List.setIfInBounds_toArray, List.set_cons_zero, List.set_cons_succ]
      have TB := hid (two_boxes B8wd8937.out B9wd8937.out N89.out DAwd8937.out DBwd8937.out)
      have x0 : wd8937.cell? ⟨X13, 0, none⟩ = some (.slice none 0 0) := cell_of_cells B8wd8937.out
      have x1 : wd8937.cell? ⟨X13, 1, none⟩ = some (.slice none 0 0) := cell_of_cells B8wd8937.out
      have x2 : wd8937.frozen? ⟨X13, 0, none⟩ = false := frozen_of_cells B8wd8937.out
      have x3 : wd8937.frozen? ⟨X13, 1, none⟩ = false := frozen_of_cells B8wd8937.out
      have BZ := hid ((BLwd8937.out).trans (TB.out.2.2.2.2.1.below (fun g _ e => by have := G89.out; rcases e with e | e <;> omega) BLwd8937.out.size))
      have TM := hid (one_box (x := .slice aa (dkP P L).length aq) (y := .slice ab (dkS S L).length bq) B8wd8937.out B9wd8937.out N89.out)
      clear B8wd8937 DAwd8937 DBwd8937
      refine rq 10 (by kernel_rfl) rfl (fun K hK => ?_)
      go_simp
      refine hK.out _ _ (by have := (LIVE.out _ (BLwd8937.out.trans (TM.out.2.1.below (fun g _ (e : g = X13) => by have := G89.out; omega) BLwd8937.out.size))).1; exact this) (fun hH2 => ?_)
      clear hK K hH x0 x1 x2 x3
      have hH := hH2
      clear hH2
      try simp only [Act.put, List.setIfInBounds_toArray, List.set_cons_zero, List.set_cons_succ]
      obtain ⟨y0, y1, y2, y3⟩ := TM.out.1
      refine rq 11 (by kernel_rfl) rfl (fun K hK => ?_)
      go_simp
      refine hK.out _ _ (by have := (LIVE.out _ BZ.out).1; exact this) (fun hH2 => ?_)
      clear hK K hH hH2 y0 y1 y2 y3
      try simp only [Act.put, List.setIfInBounds_toArray, List.set_cons_zero, List.set_cons_succ]
      refine wpAnyH_done (by kernel_rfl) ?_ _
      go_wp2_with fail
      go_meet
      case rel => exact ⟨X13, X14, aa, ba, aq, cq, rfl, rfl, TB.out.2.2.1, TB.out.2.2.2.1, TB.out.1.row.1, TB.out.2.1.row.1, (LIVE.out _ BZ.out).2.2.2⟩
    ·go_simp
     have bb9 := bel_new wd (.cells #[.slice none 0 0, .slice none 0 0] 27)
     have nn9 := heap_alloc_new wd (.cells #[.slice none 0 0, .slice none 0 0] 27)
     have BLwd9 := hid (BLwd.out.trans (bb9.mono BLwd.out.size))
     have B9wd9 := hid nn9
     have G9 := hid (show V10.heap.size ≤ wd.heap.size from BLwd.out.size)
     clear nn9
     clear BLwd bb9
     generalize wd.heap.size = X14 at *
     generalize wd.alloc (.cells #[.slice none 0 0, .slice none 0 0] 27) = wd9 at *
     refine hK.out _ _ (LIVE.out wd9 BLwd9.out).1 (fun hH2 => ?_)
     clear hK K hH
     have hH := hH2
     clear hH2
     try simp only [Act.put, List.setIfInBounds_toArray, List.set_cons_zero, List.set_cons_succ]
     refine wpAnyH_ready (rs := [3, 8]) (by kernel_rfl) (by simp) ?_
     refine AllReadyH.cons (o := ⟨_, _, _, _, _, _⟩) rfl (fun K hK => ?_) (AllReadyH.cons (o := ⟨_, _, _, _, _, _⟩) rfl (fun K hK => ?_) AllReadyH.nil)
     ·have HC := hid (implSome_any _ P S _ l _ tb wd9 (LIVE.out wd9 BLwd9.out).2.1 (LIVE.out wd9 BLwd9.out).2.2.1.1 (LIVE.out wd9 BLwd9.out).2.2.1.2 LEN.out.1 LEN.out.2.1 LEN.out.2.2 (fun x hx => (HOK.out x hx).1))
      refine step_func rfl 9 [.tmp 101, .tmp 102, .tmp 103] #[27, 28, 36] rfl runISome [.agg #[.slice pa P.length pq, .slice sa S.length sq], .slice la l.length lq, .slice ta tb.length tq'] rfl HC.out ?_
      rintro e wd93 ⟨vr, rfl, oo, bb9⟩
      rw [HL.out] at oo
      have oe := oo.toE
      obtain ⟨aa, aq, ab, bq, hvr⟩ := oe.shapeR
      subst hvr
      refine ⟨_, rfl, ?_⟩
      have DAwd93 := hid (oe.mono (Nat.zero_le _))
      have B9wd93 := hid (row_chg B9wd9.out (Chg.of_below (F := fun _ => False) bb9) id)
      have BLwd93 := hid (BLwd9.out.trans (bb9.mono BLwd9.out.size))
      clear BLwd9 B9wd9 bb9 HC oo oe
      refine hK.out _ _ (LIVE.out wd93 BLwd93.out).1 (fun hH2 => ?_)
      clear hK K hH
      have hH := hH2
      clear hH2
      try simp only [Act.put, List.setIfInBounds_toArray, List.set_cons_zero, List.set_cons_succ]
      refine wpAnyH_ready (rs := [7, 8]) (by kernel_rfl) (by simp) ?_
      refine AllReadyH.cons (o := ⟨_, _, _, _, _, _⟩) rfl (fun K hK => ?_) (AllReadyH.cons (o := ⟨_, _, _, _, _, _⟩) rfl (fun K hK => ?_) AllReadyH.nil)
      ·have HC := hid (specSome_any _ P S _ l _ tb wd93 (LIVE.out wd93 BLwd93.out).2.1 (LIVE.out wd93 BLwd93.out).2.2.1.1 (LIVE.out wd93 BLwd93.out).2.2.1.2 LEN.out.1 LEN.out.2.1 LEN.out.2.2 (fun x hx => (HOK.out x hx).1))
       refine step_func rfl 10 [.tmp 105, .tmp 106, .tmp 107] #[27, 28, 36] rfl runSSome [.agg #[.slice pa P.length pq, .slice sa S.length sq], .slice la l.length lq, .slice ta tb.length tq'] rfl HC.out ?_
       rintro e wd937 ⟨vr, rfl, oo, bb9⟩
       rw [HL.out] at oo
       have oe := oo
       obtain ⟨ba, cq, bb, dq, hvr⟩ := oe.shapeR
       subst hvr
       refine ⟨_, rfl, ?_⟩
       have DBwd937 := hid (oe.mono (Nat.zero_le _))
       have DAwd937 := hid (DAwd93.out.chg (Chg.of_below (F := fun _ => False) bb9) (fun _ _ e => e) (fun _ _ e => e))
       have B9wd937 := hid (row_chg B9wd93.out (Chg.of_below (F := fun _ => False) bb9) id)
       have BLwd937 := hid (BLwd93.out.trans (bb9.mono BLwd93.out.size))
       clear BLwd93 DAwd93 B9wd93 bb9 HC oo oe
       refine hK.out _ _ (LIVE.out wd937 BLwd937.out).1 (fun hH2 => ?_)
       clear hK K hH
       have hH := hH2
       clear hH2
       try simp only [Act.put, List.setIfInBounds_toArray, List.set_cons_zero, List.set_cons_succ]
       refine rq 8 (by kernel_rfl) rfl (fun K hK => ?_)
       go_simp
       have bb9 := bel_new wd937 (.cells #[.slice none 0 0, .slice none 0 0] 27)
       have nn9 := heap_alloc_new wd937 (.cells #[.slice none 0 0, .slice none 0 0] 27)
       have DAwd9378 := hid (DAwd937.out.chg (Chg.of_below (F := fun _ => False) bb9) (fun _ _ e => e) (fun _ _ e => e))
       have DBwd9378 := hid (DBwd937.out.chg (Chg.of_below (F := fun _ => False) bb9) (fun _ _ e => e) (fun _ _ e => e))
       have B9wd9378 := hid (row_chg B9wd937.out (Chg.of_below (F := fun _ => False) bb9) id)
       have BLwd9378 := hid (BLwd937.out.trans (bb9.mono BLwd937.out.size))
       have B8wd9378 := hid nn9
       have G8 := hid (show V10.heap.size ≤ wd937.heap.size from BLwd937.out.size)
       have lt9 := (Array.getElem?_eq_some_iff.1 B9wd937.out).1
       have N89 : Hid (wd937.heap.size ≠ X14) := by show _ ≠ _; omega
       have G89 : Hid (V10.heap.size ≤ wd937.heap.size ∧ V10.heap.size ≤ X14) := ⟨G8.out, G9.out⟩
       clear lt9
       clear nn9
       clear BLwd937 DAwd937 DBwd937 B9wd937 bb9
       generalize wd937.heap.size = X13 at *
       generalize wd937.alloc (.cells #[.slice none 0 0, .slice none 0 0] 27) = wd9378 at *
       refine hK.out _ _ (LIVE.out wd9378 BLwd9378.out).1 (fun hH2 => ?_)
       clear hK K hH
       have hH := hH2
       clear hH2
       try simp only [Act.put, List.setIfInBounds_toArray, List.set_cons_zero, List.set_cons_succ]
       have TB := hid (two_boxes B8wd9378.out B9wd9378.out N89.out DAwd9378.out DBwd9378.out)
       have x0 : wd9378.cell? ⟨X13, 0, none⟩ = some (.slice none 0 0) := cell_of_cells B8wd9378.out
       have x1 : wd9378.cell? ⟨X13, 1, none⟩ = some (.slice none 0 0) := cell_of_cells B8wd9378.out
       have x2 : wd9378.frozen? ⟨X13, 0, none⟩ = false := frozen_of_cells B8wd9378.out
       have x3 : wd9378.frozen? ⟨X13, 1, none⟩ = false := frozen_of_cells B8wd9378.out
       have BZ := hid ((BLwd9378.out).trans (TB.out.2.2.2.2.1.below (fun g _ e => by have := G89.out; rcases e with e | e <;> omega) BLwd9378.out.size))
       have TM := hid (one_box (x := .slice aa (dkP P L).length aq) (y := .slice ab (dkS S L).length bq) B8wd9378.out B9wd9378.out N89.out)
       clear B8wd9378 DAwd9378 DBwd9378
       refine rq 10 (by kernel_rfl) rfl (fun K hK => ?_)
       go_simp
       refine hK.out _ _ (by have := (LIVE.out _ (BLwd9378.out.trans (TM.out.2.1.below (fun g _ (e : g = X13) => by have := G89.out; omega) BLwd9378.out.size))).1; exact this) (fun hH2 => ?_)
       clear hK K hH x0 x1 x2 x3
       have hH := hH2
       clear hH2
       try simp only [Act.put, List.setIfInBounds_toArray, List.set_cons_zero, List.set_cons_succ]
       obtain ⟨y0, y1, y2, y3⟩ := TM.out.1
       refine rq 11 (by kernel_rfl) rfl (fun K hK => ?_)
       go_simp
       refine hK.out _ _ (by have := (LIVE.out _ BZ.out).1; exact this) (fun hH2 => ?_)
       clear hK K hH hH2 y0 y1 y2 y3
       try simp only [Act.put, List.setIfInBounds_toArray, List.set_cons_zero, List.set_cons_succ]
       refine wpAnyH_done (by kernel_rfl) ?_ _
       go_wp2_with fail
       go_meet
       case rel => exact ⟨X13, X14, aa, ba, aq, cq, rfl, rfl, TB.out.2.2.1, TB.out.2.2.2.1, TB.out.1.row.1, TB.out.2.1.row.1, (LIVE.out _ BZ.out).2.2.2⟩
      ·go_simp
       have bb9 := bel_new wd93 (.cells #[.slice none 0 0, .slice none 0 0] 27)
       have nn9 := heap_alloc_new wd93 (.cells #[.slice none 0 0, .slice none 0 0] 27)
       have DAwd938 := hid (DAwd93.out.chg (Chg.of_below (F := fun _ => False) bb9) (fun _ _ e => e) (fun _ _ e => e))
       have B9wd938 := hid (row_chg B9wd93.out (Chg.of_below (F := fun _ => False) bb9) id)
       have BLwd938 := hid (BLwd93.out.trans (bb9.mono BLwd93.out.size))
       have B8wd938 := hid nn9
       have G8 := hid (show V10.heap.size ≤ wd93.heap.size from BLwd93.out.size)
       have lt9 := (Array.getElem?_eq_some_iff.1 B9wd93.out).1
       have N89 : Hid (wd93.heap.size ≠ X14) := by show _ ≠ _; omega
       have G89 : Hid (V10.heap.size ≤ wd93.heap.size ∧ V10.heap.size ≤ X14) := ⟨G8.out, G9.out⟩
       clear lt9
       clear nn9
       clear BLwd93 DAwd93 B9wd93 bb9
       generalize wd93.heap.size = X13 at *
       generalize wd93.alloc (.cells #[.slice none 0 0, .slice none 0 0] 27) = wd938 at *
       refine hK.out _ _ (LIVE.out wd938 BLwd938.out).1 (fun hH2 => ?_)
       clear hK K hH
       have hH := hH2
       clear hH2
       try simp only [Act.put, List.setIfInBounds_toArray, List.set_cons_zero, List.set_cons_succ]
       refine rq 7 (by kernel_rfl) rfl (fun K hK => ?_)
       have HC := hid (specSome_any _ P S _ l _ tb wd938 (LIVE.out wd938 BLwd938.out).2.1 (LIVE.out wd938 BLwd938.out).2.2.1.1 (LIVE.out wd938 BLwd938.out).2.2.1.2 LEN.out.1 LEN.out.2.1 LEN.out.2.2 (fun x hx => (HOK.out x hx).1))
       refine step_func rfl 10 [.tmp 105, .tmp 106, .tmp 107] #[27, 28, 36] rfl runSSome [.agg #[.slice pa P.length pq, .slice sa S.length sq], .slice la l.length lq, .slice ta tb.length tq'] rfl HC.out ?_
       rintro e wd9387 ⟨vr, rfl, oo, bb9⟩
       rw [HL.out] at oo
       have oe := oo
       obtain ⟨ba, cq, bb, dq, hvr⟩ := oe.shapeR
       subst hvr
       refine ⟨_, rfl, ?_⟩
       have DBwd9387 := hid (oe.mono (Nat.zero_le _))
       have DAwd9387 := hid (DAwd938.out.chg (Chg.of_below (F := fun _ => False) bb9) (fun _ _ e => e) (fun _ _ e => e))
       have B8wd9387 := hid (row_chg B8wd938.out (Chg.of_below (F := fun _ => False) bb9) id)
       have B9wd9387 := hid (row_chg B9wd938.out (Chg.of_below (F := fun _ => False) bb9) id)
       have BLwd9387 := hid (BLwd938.out.trans (bb9.mono BLwd938.out.size))
       clear BLwd938 DAwd938 B8wd938 B9wd938 bb9 HC oo oe
       refine hK.out _ _ (LIVE.out wd9387 BLwd9387.out).1 (fun hH2 => ?_)
       clear hK K hH
       have hH := hH2
       clear hH2
       try simp only [Act.put, List.setIfInBounds_toArray, List.set_cons_zero, List.set_cons_succ]
       have TB := hid (two_boxes B8wd9387.out B9wd9387.out N89.out DAwd9387.out DBwd9387.out)
       have x0 : wd9387.cell? ⟨X13, 0, none⟩ = some (.slice none 0 0) := cell_of_cells B8wd9387.out
       have x1 : wd9387.cell? ⟨X13, 1, none⟩ = some (.slice none 0 0) := cell_of_cells B8wd9387.out
       have x2 : wd9387.frozen? ⟨X13, 0, none⟩ = false := frozen_of_cells B8wd9387.out
       have x3 : wd9387.frozen? ⟨X13, 1, none⟩ = false := frozen_of_cells B8wd9387.out
       have BZ := hid ((BLwd9387.out).trans (TB.out.2.2.2.2.1.below (fun g _ e => by have := G89.out; rcases e with e | e <;> omega) BLwd9387.out.size))
       have TM := hid (one_box (x := .slice aa (dkP P L).length aq) (y := .slice ab (dkS S L).length bq) B8wd9387.out B9wd9387.out N89.out)
       clear B8wd9387 DAwd9387 DBwd9387
       refine rq 10 (by kernel_rfl) rfl (fun K hK => ?_)
       go_simp
       refine hK.out _ _ (by have := (LIVE.out _ (BLwd9387.out.trans (TM.out.2.1.below (fun g _ (e : g = X13) => by have := G89.out; omega) BLwd9387.out.size))).1; exact this) (fun hH2 => ?_)
       clear hK K hH x0 x1 x2 x3
       have hH := hH2
       clear hH2
       try simp only [Act.put, List.setIfInBounds_toArray, List.set_cons_zero, List.set_cons_succ]
       obtain ⟨y0, y1, y2, y3⟩ := TM.out.1
       refine rq 11 (by kernel_rfl) rfl (fun K hK => ?_)
       go_simp
       refine hK.out _ _ (by have := (LIVE.out _ BZ.out).1; exact this) (fun hH2 => ?_)
       clear hK K hH hH2 y0 y1 y2 y3
       try simp only [Act.put, List.setIfInBounds_toArray, List.set_cons_zero, List.set_cons_succ]
       refine wpAnyH_done (by kernel_rfl) ?_ _
       go_wp2_with fail
       go_meet
       case rel => exact ⟨X13, X14, aa, ba, aq, cq, rfl, rfl, TB.out.2.2.1, TB.out.2.2.2.1, TB.out.1.row.1, TB.out.2.1.row.1, (LIVE.out _ BZ.out).2.2.2⟩
     ·go_simp
      have bb9 := bel_new wd9 (.cells #[.slice none 0 0, .slice none 0 0] 27)
      have nn9 := heap_alloc_new wd9 (.cells #[.slice none 0 0, .slice none 0 0] 27)
      have B9wd98 := hid (row_chg B9wd9.out (Chg.of_below (F := fun _ => False) bb9) id)
      have BLwd98 := hid (BLwd9.out.trans (bb9.mono BLwd9.out.size))
      have B8wd98 := hid nn9
      have G8 := hid (show V10.heap.size ≤ wd9.heap.size from BLwd9.out.size)
      have lt9 := (Array.getElem?_eq_some_iff.1 B9wd9.out).1
      have N89 : Hid (wd9.heap.size ≠ X14) := by show _ ≠ _; omega
      have G89 : Hid (V10.heap.size ≤ wd9.heap.size ∧ V10.heap.size ≤ X14) := ⟨G8.out, G9.out⟩
      clear lt9
      clear nn9
      clear BLwd9 B9wd9 bb9
      generalize wd9.heap.size = X13 at *
      generalize wd9.alloc (.cells #[.slice none 0 0, .slice none 0 0] 27) = wd98 at *
      refine hK.out _ _ (LIVE.out wd98 BLwd98.out).1 (fun hH2 => ?_)
      clear hK K hH
      have hH := hH2
      clear hH2
      try simp only [Act.put, List.setIfInBounds_toArray, List.set_cons_zero, List.set_cons_succ]
      refine rq 3 (by kernel_rfl) rfl (fun K hK => ?_)
      have HC := hid (implSome_any _ P S _ l _ tb wd98 (LIVE.out wd98 BLwd98.out).2.1 (LIVE.out wd98 BLwd98.out).2.2.1.1 (LIVE.out wd98 BLwd98.out).2.2.1.2 LEN.out.1 LEN.out.2.1 LEN.out.2.2 (fun x hx => (HOK.out x hx).1))
      refine step_func rfl 9 [.tmp 101, .tmp 102, .tmp 103] #[27, 28, 36] rfl runISome [.agg #[.slice pa P.length pq, .slice sa S.length sq], .slice la l.length lq, .slice ta tb.length tq'] rfl HC.out ?_
      rintro e wd983 ⟨vr, rfl, oo, bb9⟩
      rw [HL.out] at oo
      have oe := oo.toE
      obtain ⟨aa, aq, ab, bq, hvr⟩ := oe.shapeR
      subst hvr
      refine ⟨_, rfl, ?_⟩
      have DAwd983 := hid (oe.mono (Nat.zero_le _))
      have B8wd983 := hid (row_chg B8wd98.out (Chg.of_below (F := fun _ => False) bb9) id)
      have B9wd983 := hid (row_chg B9wd98.out (Chg.of_below (F := fun _ => False) bb9) id)
      have BLwd983 := hid (BLwd98.out.trans (bb9.mono BLwd98.out.size))
      clear BLwd98 B8wd98 B9wd98 bb9 HC oo oe
      refine hK.out _ _ (LIVE.out wd983 BLwd983.out).1 (fun hH2 => ?_)
      clear hK K hH
      have hH := hH2
      clear hH2
      try simp only [Act.put, List.setIfInBounds_toArray, List.set_cons_zero, List.set_cons_succ]
      refine rq 7 (by kernel_rfl) rfl (fun K hK => ?_)
      have HC := hid (specSome_any _ P S _ l _ tb wd983 (LIVE.out wd983 BLwd983.out).2.1 (LIVE.out wd983 BLwd983.out).2.2.1.1 (LIVE.out wd983 BLwd983.out).2.2.1.2 LEN.out.1 LEN.out.2.1 LEN.out.2.2 (fun x hx => (HOK.out x hx).1))
      refine step_func rfl 10 [.tmp 105, .tmp 106, .tmp 107] #[27, 28, 36] rfl runSSome [.agg #[.slice pa P.length pq, .slice sa S.length sq], .slice la l.length lq, .slice ta tb.length tq'] rfl HC.out ?_
      rintro e wd9837 ⟨vr, rfl, oo, bb9⟩
      rw [HL.out] at oo
      have oe := oo
      obtain ⟨ba, cq, bb, dq, hvr⟩ := oe.shapeR
      subst hvr
      refine ⟨_, rfl, ?_⟩
      have DBwd9837 := hid (oe.mono (Nat.zero_le _))
      have DAwd9837 := hid (DAwd983.out.chg (Chg.of_below (F := fun _ => False) bb9) (fun _ _ e => e) (fun _ _ e => e))
      have B8wd9837 := hid (row_chg B8wd983.out (Chg.of_below (F := fun _ => False) bb9) id)
      have B9wd9837 := hid (row_chg B9wd983.out (Chg.of_below (F := fun _ => False) bb9) id)
      have BLwd9837 := hid (BLwd983.out.trans (bb9.mono BLwd983.out.size))
      clear BLwd983 DAwd983 B8wd983 B9wd983 bb9 HC oo oe
      refine hK.out _ _ (LIVE.out wd9837 BLwd9837.out).1 (fun hH2 => ?_)
      clear hK K hH
      have hH := hH2
      clear hH2
      try simp only [Act.put, List.setIfInBounds_toArray, List.set_cons_zero, List.set_cons_succ]
      have TB := hid (two_boxes B8wd9837.out B9wd9837.out N89.out DAwd9837.out DBwd9837.out)
      have x0 : wd9837.cell? ⟨X13, 0, none⟩ = some (.slice none 0 0) := cell_of_cells B8wd9837.out
      have x1 : wd9837.cell? ⟨X13, 1, none⟩ = some (.slice none 0 0) := cell_of_cells B8wd9837.out
      have x2 : wd9837.frozen? ⟨X13, 0, none⟩ = false := frozen_of_cells B8wd9837.out
      have x3 : wd9837.frozen? ⟨X13, 1, none⟩ = false := frozen_of_cells B8wd9837.out
      have BZ := hid ((BLwd9837.out).trans (TB.out.2.2.2.2.1.below (fun g _ e => by have := G89.out; rcases e with e | e <;> omega) BLwd9837.out.size))
      have TM := hid (one_box (x := .slice aa (dkP P L).length aq) (y := .slice ab (dkS S L).length bq) B8wd9837.out B9wd9837.out N89.out)
      clear B8wd9837 DAwd9837 DBwd9837
      refine rq 10 (by kernel_rfl) rfl (fun K hK => ?_)
      go_simp
      refine hK.out _ _ (by have := (LIVE.out _ (BLwd9837.out.trans (TM.out.2.1.below (fun g _ (e : g = X13) => by have := G89.out; omega) BLwd9837.out.size))).1; exact this) (fun hH2 => ?_)
      clear hK K hH x0 x1 x2 x3
      have hH := hH2
      clear hH2
      try simp only [Act.put, List.setIfInBounds_toArray, List.set_cons_zero, List.set_cons_succ]
      obtain ⟨y0, y1, y2, y3⟩ := TM.out.1
      refine rq 11 (by kernel_rfl) rfl (fun K hK => ?_)
      go_simp
      refine hK.out _ _ (by have := (LIVE.out _ BZ.out).1; exact this) (fun hH2 => ?_)
      clear hK K hH hH2 y0 y1 y2 y3
      try simp only [Act.put, List.setIfInBounds_toArray, List.set_cons_zero, List.set_cons_succ]
      refine wpAnyH_done (by kernel_rfl) ?_ _
      go_wp2_with fail
      go_meet
      case rel => exact ⟨X13, X14, aa, ba, aq, cq, rfl, rfl, TB.out.2.2.1, TB.out.2.2.2.1, TB.out.1.row.1, TB.out.2.1.row.1, (LIVE.out _ BZ.out).2.2.2⟩
   case rest =>
    obtain ⟨X13, X14, aa, ba, aq, cq, rfl, rfl, J⟩ := hcut
    have hQl : (dkP P L).length ≤ 1048576 := by rw [dkP_length]; exact LEN.out.1
    clear LIVE LEN HOK HL
    generalize dkP P L = Q at *
    have hQi : (Q.length : Int) ≤ 1048576 := by omega
    go_wp2_with fail
    go_loopw [15] (fun i wr => ∃ j : Nat, j ≤ Q.length ∧ i = .int .i64 j ∧ Hid (Below wc.heap.size wc wr)) (fun i _ => Q.length - (intOf i).toNat)
    case atStart => exact ⟨0, Nat.zero_le _, rfl, Below.refl _ _⟩
    case round =>
     obtain ⟨j, hj, rfl, JB⟩ := hrel
     obtain ⟨c0, c1, r0, r1, bb⟩ := J.out
     have x0 := (JB.out.cell (by exact cell_lt c0)).trans c0
     have x1 := (JB.out.cell (by exact cell_lt c1)).trans c1
     by_cases hlt : j < Q.length
     ·obtain ⟨_, eb, eo, _, e1, _, _, e4, ek⟩ := (r0.below JB.out).strsR
      injection e1 with e1 _ e3
      subst e1 e3
      have hal := e4 (by omega)
      subst hal
      obtain ⟨_, fb, fo, _, e1, _, _, e4, fk⟩ := (r1.below JB.out).strsR
      injection e1 with e1 _ e3
      subst e1 e3
      have hal := e4 (by omega)
      subst hal
      have s1 := ek j hlt
      have s2 := fk j hlt
      have hb1 : (0 : Int) ≤ (j : Int) := by omega
      have hb2 : (j : Int) < (Q.length : Int) := by omega
      clear ek fk e4 c0 c1 r0 r1 bb
      generalize sOf Q j = st at *
      go_wp2_with fail
      have SD : Hid ((wr.drew.cell? ⟨X13, 0, none⟩ = some (.slice (some ⟨eb, eo, none⟩) Q.length aq) ∧ wr.drew.cell? ⟨X14, 0, none⟩ = some (.slice (some ⟨fb, fo, none⟩) Q.length cq)) ∧ wr.drew.cell? ⟨eb, eo + j, none⟩ = some (.string st) ∧ wr.drew.cell? ⟨fb, fo + j, none⟩ = some (.string st)) := ⟨⟨x0, x1⟩, s1, s2⟩
      have JD := hid (Below.and JB.out (Below.refl _ wr).drew)
      refine wp_region_held_drew (S := fun u => (u.cell? ⟨X13, 0, none⟩ = some (.slice (some ⟨eb, eo, none⟩) Q.length aq) ∧ u.cell? ⟨X14, 0, none⟩ = some (.slice (some ⟨fb, fo, none⟩) Q.length cq)) ∧ u.cell? ⟨eb, eo + j, none⟩ = some (.string st) ∧ u.cell? ⟨fb, fo + j, none⟩ = some (.string st)) (by kernel_rfl) SD.out (fun hH => ?_)
      clear x0 x1 s1 s2 SD
      generalize wr.drew = wd at *
      refine tq 0 rfl (by kernel_rfl) (fun _ _ _ h => h) (by assumption) rfl (by intro w h; go_simp <;> with_reducible rfl) ?_
      try simp only [Act.put, List.setIfInBounds_toArray, List.set_cons_zero, List.set_cons_succ]
      refine tq 1 rfl (by kernel_rfl) (fun _ _ _ h => h) (by assumption) rfl (by intro w h; go_simp <;> with_reducible rfl) ?_
      try simp only [Act.put, List.setIfInBounds_toArray, List.set_cons_zero, List.set_cons_succ]
      refine tq 2 rfl (by kernel_rfl) (fun _ _ _ h => h) (by assumption) rfl (by intro w h; go_simp <;> with_reducible rfl) ?_
      try simp only [Act.put, List.setIfInBounds_toArray, List.set_cons_zero, List.set_cons_succ]
      refine tq 3 rfl (by kernel_rfl) (fun _ _ _ h => h) (by assumption) rfl (by intro w h; go_simp <;> with_reducible rfl) ?_
      try simp only [Act.put, List.setIfInBounds_toArray, List.set_cons_zero, List.set_cons_succ]
      refine tq 4 rfl (by kernel_rfl) (fun _ _ _ h => h) (by assumption) rfl (by intro w h; go_simp <;> with_reducible rfl) ?_
      try simp only [Act.put, List.setIfInBounds_toArray, List.set_cons_zero, List.set_cons_succ]
      refine tq 5 rfl (by kernel_rfl) (fun _ _ _ h => h) (by assumption) rfl (by intro w h; go_simp <;> with_reducible rfl) ?_
      try simp only [Act.put, List.setIfInBounds_toArray, List.set_cons_zero, List.set_cons_succ]
      refine tq 6 rfl (by kernel_rfl) (fun _ _ _ h => h) (by assumption) rfl (by intro w h; go_simp <;> with_reducible rfl) ?_
      try simp only [Act.put, List.setIfInBounds_toArray, List.set_cons_zero, List.set_cons_succ]
      refine tq 7 rfl (by kernel_rfl) (fun _ _ _ h => h) (by assumption) rfl (by intro w h; go_simp <;> with_reducible rfl) ?_
      try simp only [Act.put, List.setIfInBounds_toArray, List.set_cons_zero, List.set_cons_succ]
      refine tq 8 rfl (by kernel_rfl) (fun _ _ _ h => h) (by assumption) rfl (by intro w h; go_simp <;> with_reducible rfl) ?_
      try simp only [Act.put, List.setIfInBounds_toArray, List.set_cons_zero, List.set_cons_succ]
      refine tq 9 rfl (by kernel_rfl) (fun _ _ _ h => h) (by assumption) rfl (by intro w h; go_simp <;> with_reducible rfl) ?_
      try simp only [Act.put, List.setIfInBounds_toArray, List.set_cons_zero, List.set_cons_succ]
      refine tq 10 rfl (by kernel_rfl) (fun _ _ _ h => h) (by assumption) rfl (by intro w h; go_simp <;> with_reducible rfl) ?_
      try simp only [Act.put, List.setIfInBounds_toArray, List.set_cons_zero, List.set_cons_succ]
      refine wpAnyH_done (by kernel_rfl) ?_ _
      clear hH
      go_wp2
      go_roundw
      case rel => exact ⟨j + 1, by omega, by go_num, JD.out⟩
      case measure => simp [intOf]; omega
     ·have hje : j = Q.length := by omega
      subst hje
      have FIN := hid (bb.trans (JB.out.mono bb.size))
      clear c0 c1 r0 r1 bb
      go_wp2
      go_ret
      exact ⟨rfl, FIN.out⟩
 ·have hd : decide (bs.length > 1048576) = true := decide_eq_true (by omega)
  clear hc
  subst hv
  go_enter Try.func3, Try.ntmps3
  go_wp2_with fail
  refine (big_any _ _ _ hle _).mono ?_
  rintro e w0 ⟨rfl, hw0⟩
  subst hw0
  rw [hd]
  go_wp2
  go_ret
  exact ⟨rfl, Below.refl _ _⟩
end
end Go.Proofs.Ytekcnibohikmdaa
