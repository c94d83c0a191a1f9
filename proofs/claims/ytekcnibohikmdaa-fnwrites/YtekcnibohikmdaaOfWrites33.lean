/-
  The contract of the model's l2Copy.
-/
import Derived.Test.YtekcnibohikmdaaOfWrites25
import Derived.Test.YtekcnibohikmdaaOfWrites26
import Derived.Test.YtekcnibohikmdaaOfWrites8
namespace Go.Proofs.Ytekcnibohikmdaa
set_option maxRecDepth 100000
set_option maxHeartbeats 8000000
section
open Go.RowKit

def CopyIs (n : Nat) : Prop := ∀ (x : TV) (T : Tr) (w : World), TreeAt n w x T → sizeT n T ≤ 1099511627776 →
 Calls Try.prog 35 #[x.val] w fun e w' => ∃ y : TV, e = .returned y.val ∧ TreeD n w' (fun g => w.heap.size ≤ g) y T ∧ Below w.heap.size w w'

theorem OwnE.ne_one {w : World} {base e size n L : Nat} {v : Value} {xs : List Value} {A : Array Value} (h : OwnE w base e size v n xs) (he : e ≠ 54) (hL : OneAt w L A) : ¬ wrB v L := by
 rintro ⟨k, cap, rfl, hc⟩
 rcases h with h | ⟨_, _, g', hg⟩
 ·obtain ⟨_, ⟨h1, _⟩ | ⟨g, cap', cur, h1, hg, hh, _⟩⟩ := h
  ·simp at h1
  ·simp at h1
   have h2 : w.heap[L]? = some (.cells A 54 (0, 0)) := hL
   rw [← h1.1, h2] at hh
   simp at hh
   exact he hh.2.symm
 ·simp at hg
  omega

theorem app_fresh {P : Program} {o : Oper} {a : Act} {K : Act → World → Prop} {Q : Exit → Act → World → Prop} (u : World) (s x : Operand) (t : TypeId)
  (ho : o.op = .call { callee := .builtin .append, args := #[s, x], argTypes := #[t, t] })
  (e : TypeId) (i : TypeInfo) (z : Value) (size bytes : Nat) (ht : P.underlying t = some (.slice e)) (hi : P.info? e = some i) (hz : i.zero = some z)
  (hsize : i.size = size) (hby : i.bytes = bytes) (hzs : z.cells.size = size) (hsz : 0 < size) (g : Nat) (hs : a.eval s = .slice (some ⟨g, 0, none⟩) 0 0)
  (v : Value) (n : Nat) (xs : List Value) (hx : a.eval x = v) (hr : Row u v n xs) (hl : xs.length = n * size) (h1 : ∀ y ∈ xs, y.oneCell' = true)
  (h63 : 0 + n ≤ maxLen ∧ (0 + n) * bytes ≤ 140737488355328)
  (h : ∀ b p w', Ltr u w' → OwnE w' u.heap.size e size (.slice b n p) n xs → K (a.put o.dst (.slice b n p)) w') : o.wp P a u K Q := by
 refine wp_appE u s x t ho u.heap.size e i z size bytes ht hi hz hsize hby hzs hsz _ 0 [] hs (OwnE.zero _ _ _ _ _) v n xs hx hr hl h1 h63.1 h63.2 (Nat.le_refl _) ?_
 intro v' w' A
 have q := A.1
 rw [Nat.zero_add, List.nil_append] at q
 obtain ⟨b, p, rfl⟩ := q.slice
 exact h b p w' (A.2.1.below (fun g _ h => absurd h (wrB_zero _ _)) (Nat.le_refl _)) q
theorem CW.flt {P : Program} {ops : Array Oper} {Q : Exit → Act → World → Prop} {w0 : World} {i t : Nat} {g : World → Value × World} {r : List It} {a : Act} {hs : List (Nat × Nat)} {u : World} (hd : itD ops i = some t)
  (h : ∀ u' u0, Ltr u u' → Ltr w0 u0 → Ltr (g u0).2 u' → (∀ p ∈ hs, (g u0).2.heap.size ≤ p.1 ∨ p.2 ≤ u0.heap.size) → CW P ops Q w0 r (a.put (some t) (g u0).1) ((u0.heap.size, (g u0).2.heap.size) :: hs) u') :
  CW P ops Q w0 ((i, some g) :: r) a hs u := CW.fl (by rw [hd]; exact h)
theorem op_val {P : Program} {o : Oper} {a : Act} {K : Act → World → Prop} {Q : Exit → Act → World → Prop} {u u' : World} {v : Value} (h : (execOp a.eval o).run P u = .ok (.value v) u') (k : K (a.put o.dst v) u') : o.wp P a u K Q := by
 unfold Oper.wp
 rw [h]
 exact k
theorem OneAt.second (w : World) (o : Obj) (A : Array Value) : OneAt ((w.alloc o).alloc (.cells A 54)) (w.heap.size + 1) A := by
 have := OneAt.start (w.alloc o) A
 rwa [World.size_alloc] at this

theorem copy_of {n : Nat} (H : CopyIs n) : CopyIs (n + 1) := by
 intro x T w ht hsz
 obtain ⟨i1, hi1, hw10, hw11, hw12⟩ := info_parts Try.info76
 obtain ⟨i2, hi2, hw20, hw21, hw22⟩ := info_parts Try.info3
 obtain ⟨i3, hi3, hw30, hw31, hw32⟩ := info_parts Try.info73
 obtain ⟨i0, hi0, hz0, hz1, hz2⟩ := info_parts Try.info54
 obtain ⟨hlf, hp, hc, hb, hk⟩ := ht.parts
 obtain ⟨a1, a2, a3, a4, q1, q2, q3, q4, hx⟩ := ht.shape
 subst hx
 simp only at hlf hp hc hb hk
 obtain ⟨xs0, hxl, hrow, hel⟩ := hk
 obtain ⟨av, b3, o3, c3, hvt, hcap1, hmax1, ha1, d0, d1, d2, d3, d4⟩ := hrow.trees
 have hq3 : a3 = av ∧ q3 = c3 := by simp at hvt; exact ⟨hvt.1, hvt.2.2⟩
 obtain ⟨rfl, rfl⟩ := hq3
 have hsz' : T.pairs.length + (T.cuts.length + (T.kids.length + (T.kids.map (sizeT n)).sum + T.buf.length)) ≤ 1099511627776 := hsz
 have R1 : Hid (∀ u, Below w.heap.size w u → Row u (.slice a1 T.pairs.length q1) T.pairs.length (flatP T.pairs)) := fun u hu => hp.below hu
 have R2 : Hid (∀ u, Below w.heap.size w u → Row u (.slice a2 T.cuts.length q2) T.cuts.length (flatI T.cuts)) := fun u hu => hc.below hu
 have R3 : Hid (∀ u, Below w.heap.size w u → Row u (.slice a4 T.buf.length q4) T.buf.length (flatM T.buf)) := fun u hu => hb.below hu
 have L1 : Hid ((flatP T.pairs).length = T.pairs.length * 2) := flatP_length _
 have L2 : Hid ((flatI T.cuts).length = T.cuts.length * 1) := by show _ = _; rw [flatI_length]; omega
 have L3 : Hid ((flatM T.buf).length = T.buf.length * 3) := flatM_length _
 have O1 : Hid _ := flatP_one T.pairs
 have O2 : Hid _ := flatI_one T.cuts
 have O3 : Hid _ := flatM_one T.buf
 have Z1 : Hid (0 + T.pairs.length ≤ maxLen ∧ (0 + T.pairs.length) * 16 ≤ 140737488355328) := ⟨by unfold maxLen; omega, by omega⟩
 have Z2 : Hid (0 + T.cuts.length ≤ maxLen ∧ (0 + T.cuts.length) * 8 ≤ 140737488355328) := ⟨by unfold maxLen; omega, by omega⟩
 have Z3 : Hid (0 + T.buf.length ≤ maxLen ∧ (0 + T.buf.length) * 24 ≤ 140737488355328) := ⟨by unfold maxLen; omega, by omega⟩
 have HG : Hid (∀ (j : Nat) (w1 : World), j < T.kids.length → Below w.heap.size w w1 → Calls Try.prog 35 #[(tvAt xs0 j).val] w1 fun e w' => ∃ y : TV, e = .returned y.val ∧ TreeD n w' (fun g => w1.heap.size ≤ g) y (T.kids.getD j noTr) ∧ Below w1.heap.size w1 w') := fun j w1 hj hbw => H _ _ _ ((hel j (by omega)).below hbw) (by have := sizeT_kid (n := n) hj; unfold kidT at this; omega)
 have HE : Hid (∀ j, j < T.kids.length → TreeAt n w (tvAt xs0 j) (T.kids.getD j noTr)) := fun j hj => hel j (by omega)
 have DC : Hid (∀ (j : Nat) (w1 : World), Below w.heap.size w w1 → j < T.kids.length → w1.cell? ⟨b3, o3 + j * 5, none⟩ = some (.bool (tvAt xs0 j).lf) ∧ w1.cell? ⟨b3, o3 + j * 5 + 1, none⟩ = some (tvAt xs0 j).p ∧ w1.cell? ⟨b3, o3 + j * 5 + 2, none⟩ = some (tvAt xs0 j).c ∧ w1.cell? ⟨b3, o3 + j * 5 + 3, none⟩ = some (tvAt xs0 j).k ∧ w1.cell? ⟨b3, o3 + j * 5 + 4, none⟩ = some (tvAt xs0 j).b) :=
  fun j w1 h hj => ⟨cell_lowB h (cell_lt (d0 j (by omega))) (d0 j (by omega)), cell_lowB h (cell_lt (d1 j (by omega))) (d1 j (by omega)), cell_lowB h (cell_lt (d2 j (by omega))) (d2 j (by omega)), cell_lowB h (cell_lt (d3 j (by omega))) (d3 j (by omega)), cell_lowB h (cell_lt (d4 j (by omega))) (d4 j (by omega))⟩
 have HA : Hid (0 < T.kids.length → a3 = some ⟨b3, o3, none⟩) := fun h => ha1 (by omega)
 have FINAL : Hid (∀ (wz : World) (F : Nat → Prop) (v1 v2 v3 v4 : Value) (ys : List TV) (K : Nat → Nat → Prop), OwnE wz 0 76 2 v1 T.pairs.length (flatP T.pairs) → OwnE wz 0 3 1 v2 T.cuts.length (flatI T.cuts) → OwnE wz 0 73 3 v4 T.buf.length (flatM T.buf) → ys.length = T.kids.length → OwnE wz 0 54 5 v3 ys.length (flatT ys) → (∀ i, i < ys.length → TreeD n wz (K i) (tvAt ys i) (T.kids.getD i noTr)) → (∀ g, wrB v1 g ∨ wrB v2 g ∨ wrB v4 g ∨ wrB v3 g → F g) → (∀ i g, i < ys.length → K i g → F g ∧ ¬ (wrB v1 g ∨ wrB v2 g ∨ wrB v4 g ∨ wrB v3 g)) → (∀ i j g, i < j → j < ys.length → K i g → ¬ K j g) → TreeD (n + 1) wz F ⟨T.leaf, v1, v2, v3, v4⟩ T) := fun wz F v1 v2 v3 v4 ys K g1 g2 g4 g5 g6 g7 g8 g9 g10 => ⟨rfl, g1, g2, g4, g8, ys, K, g5, g6, g7, g9, g10⟩
 clear ht hp hc hb hrow hel d0 d1 d2 d3 d4 ha1 hsz hvt hlf H
 have hn3 : T.kids.length ≤ 1099511627776 := by omega
 clear hsz'
 rw [hxl] at hcap1
 clear hxl
 generalize flatP T.pairs = f1 at *
 generalize flatI T.cuts = f2 at *
 generalize flatM T.buf = f4 at *
 generalize T.pairs.length = n1 at *
 generalize T.cuts.length = n2 at *
 generalize T.buf.length = n4 at *
 generalize hts : T.kids = ts at *
 generalize T.leaf = lf at *
 generalize hn : ts.length = n3 at *
 show Calls Try.prog 35 #[.agg #[.bool lf, .slice a1 n1 q1, .slice a2 n2 q2, .slice a3 n3 q3, .slice a4 n4 q4]] w _
 go_enter Try.func35, Try.ntmps35
 go_wp2_with fail
 refine wp_gen (fun W => OneAt W w.heap.size #[.bool lf, .slice a1 n1 q1, .slice a2 n2 q2, .slice a3 n3 q3, .slice a4 n4 q4] ∧ OneAt W (w.heap.size + 1) #[.bool false, .slice none 0 0, .slice none 0 0, .slice none 0 0, .slice none 0 0] ∧ Below w.heap.size w W ∧ w.heap.size + 2 ≤ W.heap.size) ⟨(OneAt.start w _).step (al1 _ _), OneAt.second _ _ _, al2 _ _ _, by simp⟩ ?_
 rintro W ⟨Y0, Y1, YB, YZ⟩
 obtain ⟨c0, c1, c2, c3, c4⟩ := box_cells5 Y0
 have BW : Hid (∀ u, Below W.heap.size W u → Below w.heap.size w u) := fun u hu => Below.and YB hu
 have YS : Hid (OneAt W w.heap.size #[.bool lf, .slice a1 n1 q1, .slice a2 n2 q2, .slice a3 n3 q3, .slice a4 n4 q4]) := Y0
 have YR : Hid (OneAt W (w.heap.size + 1) #[.bool false, .slice none 0 0, .slice none 0 0, .slice none 0 0, .slice none 0 0]) := Y1
 have YN : Hid (w.heap.size + 2 ≤ W.heap.size) := YZ
 have KEEP : Hid (∀ u, Ltr W.drew u → u.cell? ⟨w.heap.size, 0, none⟩ = some (.bool lf) ∧ u.cell? ⟨w.heap.size, 1, none⟩ = some (.slice a1 n1 q1) ∧ u.cell? ⟨w.heap.size, 2, none⟩ = some (.slice a2 n2 q2) ∧ u.cell? ⟨w.heap.size, 4, none⟩ = some (.slice a4 n4 q4) ∧ Hid (Below W.heap.size W u)) := fun u hu => by have hu : Below W.heap.size W u := Below.and (Below.refl _ W).drew hu; exact ⟨cell_lowB hu (cell_lt c0) c0, cell_lowB hu (cell_lt c1) c1, cell_lowB hu (cell_lt c2) c2, cell_lowB hu (cell_lt c4) c4, hu⟩
 have KB : Hid (∀ u, Ltr W.drew u → Below W.heap.size W u) := fun u hu => Below.and (Below.refl _ W).drew hu
 replace R1 : Hid (∀ u, Below W.heap.size W u → Row u (.slice a1 n1 q1) n1 f1) := fun u hu => R1.out u (BW.out u hu)
 replace R2 : Hid (∀ u, Below W.heap.size W u → Row u (.slice a2 n2 q2) n2 f2) := fun u hu => R2.out u (BW.out u hu)
 replace R3 : Hid (∀ u, Below W.heap.size W u → Row u (.slice a4 n4 q4) n4 f4) := fun u hu => R3.out u (BW.out u hu)
 clear c0 c1 c2 c3 c4 Y0 Y1 YB YZ
 go_cut [3] (fun s3 wx => ∃ (L : Nat) (b1 b2 b4 : Option Addr) (p1 p2 p4 : Nat), s3 = .pointer (some ⟨L, 0, none⟩) ∧ Hid (OneAt wx L #[.bool lf, .slice b1 n1 p1, .slice b2 n2 p2, .slice none 0 0, .slice b4 n4 p4]) ∧ Hid (OwnE wx W.heap.size 76 2 (.slice b1 n1 p1) n1 f1) ∧ Hid (OwnE wx W.heap.size 3 1 (.slice b2 n2 p2) n2 f2) ∧ Hid (OwnE wx W.heap.size 73 3 (.slice b4 n4 p4) n4 f4) ∧ Hid (W.heap.size ≤ L) ∧ Hid (Below W.heap.size W wx))
 case first =>
  clear HG HE DC HA FINAL YS YR YN BW
  refine wp_region_last (fun u => u.cell? ⟨w.heap.size, 0, none⟩ = some (.bool lf) ∧ u.cell? ⟨w.heap.size, 1, none⟩ = some (.slice a1 n1 q1) ∧ u.cell? ⟨w.heap.size, 2, none⟩ = some (.slice a2 n2 q2) ∧ u.cell? ⟨w.heap.size, 4, none⟩ = some (.slice a4 n4 q4) ∧ Hid (Below W.heap.size W u)) [_, _, _, _, _, _, _, _, _, _, _, _, _, _, _, _] _ rfl (by kernel_rfl) (by kernel_rfl) ?_
  generalize W.drew = wd at *
  have h0 := KEEP.out _ (Ltr.refl _)
  refine tq 0 rfl (by kernel_rfl) (fun _ _ _ h => h) (by assumption) rfl (by intro w h; go_simp <;> with_reducible rfl) ?_
  try simp only [Act.put, sA, sB, sC]
  refine tq 1 rfl (by kernel_rfl) (fun _ _ _ h => h) (by assumption) rfl (by intro w h; go_simp <;> with_reducible rfl) ?_
  try simp only [Act.put, sA, sB, sC]
  refine tq 3 rfl (by kernel_rfl) (fun _ _ _ h => h) (by assumption) rfl (by intro w h; go_simp <;> with_reducible rfl) ?_
  try simp only [Act.put, sA, sB, sC]
  refine tq 4 rfl (by kernel_rfl) (fun _ _ _ h => h) (by assumption) rfl (by intro w h; go_simp <;> with_reducible rfl) ?_
  try simp only [Act.put, sA, sB, sC]
  refine tq 7 rfl (by kernel_rfl) (fun _ _ _ h => h) (by assumption) rfl (by intro w h; go_simp <;> with_reducible rfl) ?_
  try simp only [Act.put, sA, sB, sC]
  refine tq 8 rfl (by kernel_rfl) (fun _ _ _ h => h) (by assumption) rfl (by intro w h; go_simp <;> with_reducible rfl) ?_
  try simp only [Act.put, sA, sB, sC]
  refine tq 11 rfl (by kernel_rfl) (fun _ _ _ h => h) (by assumption) rfl (by intro w h; go_simp <;> with_reducible rfl) ?_
  try simp only [Act.put, sA, sB, sC]
  refine tq 12 rfl (by kernel_rfl) (fun _ _ _ h => h) (by assumption) rfl (by intro w h; go_simp <;> with_reducible rfl) ?_
  try simp only [Act.put, sA, sB, sC]
  clear h0
  refine wp_chain [(2, some fun u => (.slice (some ⟨u.heap.size, 0, none⟩) 0 0, u.alloc (.cells #[] 76))), (5, none), (6, some fun u => (.slice (some ⟨u.heap.size, 0, none⟩) 0 0, u.alloc (.cells #[] 3))), (9, none), (10, some fun u => (.slice (some ⟨u.heap.size, 0, none⟩) 0 0, u.alloc (.cells #[] 73))), (13, none), (14, none), (15, some fun u => (.pointer (some ⟨u.heap.size, 0, none⟩), u.alloc (.cells #[.bool false, .slice none 0 0, .slice none 0 0, .slice none 0 0, .slice none 0 0] 54)))] rfl (by kernel_rfl) KEEP.out ?_ ?_
  ·intro f g hf op ho u _
   simp only [List.mem_cons, Prod.mk.injEq, reduceCtorEq, and_false, false_or, List.not_mem_nil, or_false, Option.some.injEq] at hf
   rcases hf with ⟨rfl, rfl⟩ | ⟨rfl, rfl⟩ | ⟨rfl, rfl⟩ | ⟨rfl, rfl⟩ <;> (cases ho; exact ⟨by go_simp <;> rfl, al1 _ _⟩)
  clear KEEP
  refine CW.flt rfl (fun u1 g1 l1 _ _ _ => ?_)
  simp only [Act.put, sA, sB, sC]
  refine CW.op (o := ⟨_, _, _, _, _, _⟩) rfl (fun u2 l2 K hK => ?_)
  refine app_fresh u2 _ _ 49 rfl 76 i1 _ 2 16 Try.underlying49 hi1 hw10 hw11 hw12 rfl (by decide) g1.heap.size rfl _ n1 f1 rfl (R1.out _ (KB.out _ (l1.trans l2))) L1.out O1.out Z1.out ?_
  intro b1 p1 x2 m2 o1
  have C2 := hid ((l1.trans l2).trans m2)
  have Y1 := hid (And.intro (KB.out _ (l1.trans l2)).size o1)
  refine hK.out _ _ m2 ?_
  clear hK K l1 l2 m2 o1 R1
  simp only [Act.put, sA, sB, sC]
  refine CW.flt rfl (fun u3 g3 l3 _ _ _ => ?_)
  simp only [Act.put, sA, sB, sC]
  refine CW.op (o := ⟨_, _, _, _, _, _⟩) rfl (fun u4 l4 K hK => ?_)
  refine app_fresh u4 _ _ 50 rfl 3 i2 _ 1 8 Try.underlying50 hi2 hw20 hw21 hw22 rfl (by decide) g3.heap.size rfl _ n2 f2 rfl (R2.out _ (KB.out _ (C2.out.trans (l3.trans l4)))) L2.out O2.out Z2.out ?_
  intro b2 p2 x4 m4 o2
  have C4 := hid (C2.out.trans ((l3.trans l4).trans m4))
  have Y2 := hid (And.intro (KB.out _ (C2.out.trans (l3.trans l4))).size o2)
  have E2 := hid ((l3.trans l4).trans m4)
  refine hK.out _ _ m4 ?_
  clear hK K l3 l4 m4 o2 R2 C2
  simp only [Act.put, sA, sB, sC]
  refine CW.flt rfl (fun u5 g5 l5 _ _ _ => ?_)
  simp only [Act.put, sA, sB, sC]
  refine CW.op (o := ⟨_, _, _, _, _, _⟩) rfl (fun u6 l6 K hK => ?_)
  refine app_fresh u6 _ _ 52 rfl 73 i3 _ 3 24 Try.underlying52 hi3 hw30 hw31 hw32 rfl (by decide) g5.heap.size rfl _ n4 f4 rfl (R3.out _ (KB.out _ (C4.out.trans (l5.trans l6)))) L3.out O3.out Z3.out ?_
  intro b4 p4 x6 m6 o3
  have C6 := hid (C4.out.trans ((l5.trans l6).trans m6))
  have Y3 := hid (And.intro (KB.out _ (C4.out.trans (l5.trans l6))).size o3)
  have E4 := hid ((l5.trans l6).trans m6)
  refine hK.out _ _ m6 ?_
  clear hK K l5 l6 m6 o3 R3 C4
  simp only [Act.put, sA, sB, sC]
  refine CW.op (o := ⟨_, _, _, _, _, _⟩) rfl (fun u7 l7 K hK => ?_)
  refine op_val (v := .agg #[.bool lf, .slice b1 n1 p1, .slice b2 n2 p2, .slice none 0 0, .slice b4 n4 p4]) (u' := u7) (by go_simp; try rfl) (hK.out _ _ (Ltr.refl _) ?_)
  clear hK K
  simp only [Act.put, sA, sB, sC]
  refine CW.flt rfl (fun u8 n0 l8 w8 m8 _ => ?_)
  simp only [Act.put, sA, sB, sC]
  refine CW.last (fun u9 l9 K hK => ?_)
  have E6 := hid (l7.trans (l8.trans l9))
  have BX := hid ((Bx.start n0 (cs := zcs) rfl).step (m8.trans l9))
  have XN := hid ((KB.out _ w8).size)
  have BN := hid (KB.out _ (C6.out.trans E6.out))
  clear l7 l8 w8 m8 l9 C6 KB
  refine wp_store_mid 54 _ _ rfl n0.heap.size 0 #[.bool lf, .slice b1 n1 p1, .slice b2 n2 p2, .slice none 0 0, .slice b4 n4 p4] rfl rfl (BX.out.there rfl) (infoT5 rfl) (by simp [Value.oneCell']) (hK.out _ _ ?_)
  clear hK K
  have FIN := hid (Chg.setCells (F := fun b => b = n0.heap.size) (g := n0.heap.size) (fun _ => rfl) [.bool lf, .slice b1 n1 p1, .slice b2 n2 p2, .slice none 0 0, .slice b4 n4 p4] 0 u9 (Chg.refl _ _))
  go_wp2_with fail
  go_meet
  case rel =>
   have hc := FIN.out
   have z1 := (Y1.out.2.below (E2.out.trans (E4.out.trans E6.out))).mono Y1.out.1
   have z2 := (Y2.out.2.below (E4.out.trans E6.out)).mono Y2.out.1
   have z3 := (Y3.out.2.below E6.out).mono Y3.out.1
   exact ⟨n0.heap.size, b1, b2, b4, p1, p2, p4, rfl, (BX.out.set rfl).1, z1.chg hc (fun g hg e => z1.ne_one (by decide) BX.out.1 (e ▸ hg)), z2.chg hc (fun g hg e => z2.ne_one (by decide) BX.out.1 (e ▸ hg)), z3.chg hc (fun g hg e => z3.ne_one (by decide) BX.out.1 (e ▸ hg)), XN, BN.out.trans (hc.below (fun g _ e => by have := XN.out; omega) BN.out.size)⟩
 case rest =>
 obtain ⟨L, b1, b2, b4, p1, p2, p4, rfl, XL, D1, D2, D3, HL, BN⟩ := hcut
 have CS := hid (YS.out.stepB BN.out (by have := YN.out; omega))
 have CR := hid (YR.out.stepB BN.out (by have := YN.out; omega))
 have CB := hid (BW.out _ BN.out)
 have HLZ := hid ((Array.getElem?_eq_some_iff.1 XL.out).1)
 have HLs := hid (Nat.le_trans YN.out HL.out)
 clear KEEP KB R1 R2 R3 L1 L2 L3 O1 O2 O3 Z1 Z2 Z3 YS YR
 have EN := hid (XL)
 go_wp2
 go_loopw [4] (fun i wr => ∃ (ys : List TV) (KF : Nat → Nat → Prop) (a5 : Option Addr) (q5 : Nat), i = .int .i64 (ys.length : Nat) ∧ ys.length ≤ n3 ∧ Hid (OneAt wr L #[.bool lf, .slice b1 n1 p1, .slice b2 n2 p2, .slice a5 ys.length q5, .slice b4 n4 p4]) ∧ Hid (OwnE wr wc.heap.size 54 5 (.slice a5 ys.length q5) ys.length (flatT ys)) ∧ Hid (∀ i, i < ys.length → TreeD n wr (KF i) (tvAt ys i) (ts.getD i noTr)) ∧ Hid (∀ i g, i < ys.length → KF i g → wc.heap.size ≤ g ∧ g < wr.heap.size ∧ ¬ wrB (.slice a5 ys.length q5) g) ∧ Hid (∀ i j g, i < j → j < ys.length → KF i g → ¬ KF j g) ∧ Hid (Chg (fun g => g = L) wc wr))
  (fun i _ => n3 - (intOf i).toNat)
 case atStart => exact ⟨[], fun _ _ => False, none, 0, rfl, Nat.zero_le _, EN, OwnE.nil _ _ _ _, fun i hi => absurd hi (Nat.not_lt_zero _), fun i g hi => absurd hi (Nat.not_lt_zero _), fun i j g _ hj => absurd hj (Nat.not_lt_zero _), Chg.refl _ _⟩
 case round =>
  obtain ⟨ys, KF, a5, q5, rfl, hjn, BX, OW, TK, KP, KD, CH⟩ := hrel
  have CW := hid (CB.out.trans (CH.out.below (fun g _ hg => by have := HLs.out; omega) CB.out.size))
  have ZZ : Hid (wc.heap.size ≤ wr.heap.size) := CH.out.size
  have PS : Hid (OneAt wr w.heap.size #[.bool lf, .slice a1 n1 q1, .slice a2 n2 q2, .slice a3 n3 q3, .slice a4 n4 q4]) := CS.out.chg CH.out (by have := HLs.out; omega)
  have PR : Hid (OneAt wr (w.heap.size + 1) #[.bool false, .slice none 0 0, .slice none 0 0, .slice none 0 0, .slice none 0 0]) := CR.out.chg CH.out (by have := HLs.out; omega)
  clear EN
  by_cases hlt : ys.length < n3
  ·have ha3 := HA.out (by omega)
   subst ha3
   have hi1 : (0 : Int) ≤ (ys.length : Int) := by omega
   have hi2 : (ys.length : Int) < (n3 : Int) := by omega
   have hi3 : ys.length < n3 := hlt
   have HG1 : Hid (∀ (w1 : World), Below w.heap.size w w1 → _) := fun w1 hb => HG.out ys.length w1 hlt hb
   have DC1 : Hid (∀ (w1 : World), Below w.heap.size w w1 → _) := fun w1 hb => DC.out ys.length w1 hb hlt
   obtain ⟨r1, r2, r3, r4, s1, s2, s3, s4, hy⟩ := (HE.out ys.length hlt).shape
   rw [hy] at HG1 DC1
   generalize hKT : ts.getD ys.length noTr = KT at *
   generalize KT.leaf = z0 at *
   generalize KT.pairs.length = z1 at *
   generalize KT.cuts.length = z2 at *
   generalize KT.kids.length = z3 at *
   generalize KT.buf.length = z4 at *
   try simp only at DC1
   clear HG HE DC HA FINAL hy PR CR
   have c5 := (box_cells5 BX.out).2.2.2.1
   have c3 := (box_cells5 PS.out).2.2.2.1
   have SK : Hid (∀ u, Below w.heap.size w u → OneAt u L #[.bool lf, .slice b1 n1 p1, .slice b2 n2 p2, .slice a5 ys.length q5, .slice b4 n4 p4] → OneAt u w.heap.size #[.bool lf, .slice a1 n1 q1, .slice a2 n2 q2, .slice (some ⟨b3, o3, none⟩) n3 q3, .slice a4 n4 q4] → (u.cell? ⟨L, 3, none⟩ = some (.slice a5 ys.length q5) ∧ u.cell? ⟨w.heap.size, 3, none⟩ = some (.slice (some ⟨b3, o3, none⟩) n3 q3) ∧ (u.cell? ⟨b3, o3 + ys.length * 5, none⟩ = some (.bool z0) ∧ u.cell? ⟨b3, o3 + ys.length * 5 + 1, none⟩ = some (.slice r1 z1 s1) ∧ u.cell? ⟨b3, o3 + ys.length * 5 + 2, none⟩ = some (.slice r2 z2 s2) ∧ u.cell? ⟨b3, o3 + ys.length * 5 + 3, none⟩ = some (.slice r3 z3 s3) ∧ u.cell? ⟨b3, o3 + ys.length * 5 + 4, none⟩ = some (.slice r4 z4 s4)))) := fun u hb h1 h2 => ⟨(box_cells5 h1).2.2.2.1, (box_cells5 h2).2.2.2.1, DC1.out u hb⟩
   have hS : wr.drew.cell? ⟨L, 3, none⟩ = some (.slice a5 ys.length q5) ∧ wr.drew.cell? ⟨w.heap.size, 3, none⟩ = some (.slice (some ⟨b3, o3, none⟩) n3 q3) ∧ (wr.drew.cell? ⟨b3, o3 + ys.length * 5, none⟩ = some (.bool z0) ∧ wr.drew.cell? ⟨b3, o3 + ys.length * 5 + 1, none⟩ = some (.slice r1 z1 s1) ∧ wr.drew.cell? ⟨b3, o3 + ys.length * 5 + 2, none⟩ = some (.slice r2 z2 s2) ∧ wr.drew.cell? ⟨b3, o3 + ys.length * 5 + 3, none⟩ = some (.slice r3 z3 s3) ∧ wr.drew.cell? ⟨b3, o3 + ys.length * 5 + 4, none⟩ = some (.slice r4 z4 s4)) := SK.out wr.drew CW.out.drew BX.out PS.out
   have BXd : Hid (OneAt wr.drew L #[.bool lf, .slice b1 n1 p1, .slice b2 n2 p2, .slice a5 ys.length q5, .slice b4 n4 p4]) := BX.out
   have PSd : Hid (OneAt wr.drew w.heap.size #[.bool lf, .slice a1 n1 q1, .slice a2 n2 q2, .slice (some ⟨b3, o3, none⟩) n3 q3, .slice a4 n4 q4]) := PS.out
   have CWd : Hid (Below w.heap.size w wr.drew) := CW.out.drew
   have OWd : Hid (OwnE wr.drew wc.heap.size 54 5 (.slice a5 ys.length q5) ys.length (flatT ys)) := OW.out.below (Below.refl _ _).drew
   have TKd : Hid (∀ i, i < ys.length → TreeD n wr.drew (KF i) (tvAt ys i) (ts.getD i noTr)) := fun i hi => (TK.out i hi).below (Below.refl _ _).drew
   have KPd : Hid (∀ i g, i < ys.length → KF i g → wc.heap.size ≤ g ∧ g < wr.drew.heap.size ∧ ¬ wrB (.slice a5 ys.length q5) g) := KP
   have CHd : Hid (Chg (fun g => g = L) wc wr.drew) := CH.out.drew
   have ZZd : Hid (wc.heap.size ≤ wr.drew.heap.size) := ZZ
   clear c5 BX PS CW OW TK KP CH ZZ
   go_wp2_with fail
   clear c3
   refine wp_region_last (fun u => u.cell? ⟨L, 3, none⟩ = some (.slice a5 ys.length q5) ∧ u.cell? ⟨w.heap.size, 3, none⟩ = some (.slice (some ⟨b3, o3, none⟩) n3 q3) ∧ (u.cell? ⟨b3, o3 + ys.length * 5, none⟩ = some (.bool z0) ∧ u.cell? ⟨b3, o3 + ys.length * 5 + 1, none⟩ = some (.slice r1 z1 s1) ∧ u.cell? ⟨b3, o3 + ys.length * 5 + 2, none⟩ = some (.slice r2 z2 s2) ∧ u.cell? ⟨b3, o3 + ys.length * 5 + 3, none⟩ = some (.slice r3 z3 s3) ∧ u.cell? ⟨b3, o3 + ys.length * 5 + 4, none⟩ = some (.slice r4 z4 s4))) [_, _, _, _, _, _, _, _, _, _, _] _ rfl (by kernel_rfl) (by kernel_rfl) ?_
   generalize wr.drew = wd at *
   refine tq 0 rfl (by kernel_rfl) (fun _ _ _ h => h) (by assumption) rfl (by intro w h; go_simp <;> with_reducible rfl) ?_
   try simp only [Act.put, sA, sB, sC]
   refine tq 1 rfl (by kernel_rfl) (fun _ _ _ h => h) (by assumption) rfl (by intro w h; go_simp <;> with_reducible rfl) ?_
   try simp only [Act.put, sA, sB, sC]
   refine tq 2 rfl (by kernel_rfl) (fun _ _ _ h => h) (by assumption) rfl (by intro w h; go_simp <;> with_reducible rfl) ?_
   try simp only [Act.put, sA, sB, sC]
   refine tq 3 rfl (by kernel_rfl) (fun _ _ _ h => h) (by assumption) rfl (by intro w h; go_simp <;> with_reducible rfl) ?_
   try simp only [Act.put, sA, sB, sC]
   refine tq 4 rfl (by kernel_rfl) (fun _ _ _ h => h) (by assumption) rfl (by intro w h; go_simp <;> with_reducible rfl) ?_
   try simp only [Act.put, sA, sB, sC]
   refine tq 5 rfl (by kernel_rfl) (fun _ _ _ h => h) (by assumption) rfl (by intro w h; go_simp <;> with_reducible rfl) ?_
   try simp only [Act.put, sA, sB, sC]
   refine tq 6 rfl (by kernel_rfl) (fun _ _ _ h => h) (by assumption) rfl (by intro w h; go_simp <;> with_reducible rfl) ?_
   try simp only [Act.put, sA, sB, sC]
   refine rq 7 (by kernel_rfl) rfl (fun K hK => ?_)
   go_wp2_with fail
   refine Calls.mono (HG1.out wd CWd.out) ?_
   rintro e w1 ⟨y, rfl, TY, hb1⟩
   obtain ⟨e1, e2, e3, e4, t1, t2, t3, t4, hy⟩ := TY.treeF.treeAt.shape
   subst hy
   have BX1 : Hid (OneAt w1 L #[.bool lf, .slice b1 n1 p1, .slice b2 n2 p2, .slice a5 ys.length q5, .slice b4 n4 p4]) := BXd.out.step hb1
   have PS1 : Hid (OneAt w1 w.heap.size #[.bool lf, .slice a1 n1 q1, .slice a2 n2 q2, .slice (some ⟨b3, o3, none⟩) n3 q3, .slice a4 n4 q4]) := PSd.out.step hb1
   have CW1 : Hid (Below w.heap.size w w1) := Below.and CWd.out hb1
   have TY1 : Hid (TreeD n w1 (fun g => wd.heap.size ≤ g ∧ g < w1.heap.size) ⟨KT.leaf, .slice e1 KT.pairs.length t1, .slice e2 KT.cuts.length t2, .slice e3 KT.kids.length t3, .slice e4 KT.buf.length t4⟩ KT) := TY.lt
   have LB1 : Hid (Below wd.heap.size wd w1) := hb1
   generalize KT.leaf = y0 at *
   generalize KT.pairs.length = y1 at *
   generalize KT.cuts.length = y2 at *
   generalize KT.kids.length = y3 at *
   generalize KT.buf.length = y4 at *
   clear TY hb1 BXd PSd CWd
   refine hK.out _ _ (SK.out w1 CW1.out BX1.out PS1.out) (fun hH => ?_)
   clear hK K
   try simp only [Act.put, sA, sB, sC]
   clear hH hS
   refine rq 8 (by kernel_rfl) rfl (fun K hK => ?_)
   go_simp
   have BX2 : Hid (OneAt (w1.alloc (.cells #[.bool y0, .slice e1 y1 t1, .slice e2 y2 t2, .slice e3 y3 t3, .slice e4 y4 t4] 54)) L #[.bool lf, .slice b1 n1 p1, .slice b2 n2 p2, .slice a5 ys.length q5, .slice b4 n4 p4]) := BX1.out.step (al1 _ _)
   have PS2 : Hid (OneAt (w1.alloc (.cells #[.bool y0, .slice e1 y1 t1, .slice e2 y2 t2, .slice e3 y3 t3, .slice e4 y4 t4] 54)) w.heap.size #[.bool lf, .slice a1 n1 q1, .slice a2 n2 q2, .slice (some ⟨b3, o3, none⟩) n3 q3, .slice a4 n4 q4]) := PS1.out.step (al1 _ _)
   have CW2 : Hid (Below w.heap.size w (w1.alloc (.cells #[.bool y0, .slice e1 y1 t1, .slice e2 y2 t2, .slice e3 y3 t3, .slice e4 y4 t4] 54))) := Below.and CW1.out (al1 _ _)
   refine hK.out _ _ (SK.out _ CW2.out BX2.out PS2.out) (fun hH => ?_)
   clear hK K
   try simp only [Act.put, sA, sB, sC]
   clear hH
   refine rq 9 (by kernel_rfl) rfl (fun K hK => ?_)
   have LB2 : Below wd.heap.size wd (w1.alloc (.cells #[.bool y0, .slice e1 y1 t1, .slice e2 y2 t2, .slice e3 y3 t3, .slice e4 y4 t4] 54)) := Below.and LB1.out (al1 _ _)
   have HR1 : Hid (ys.length + 1 ≤ maxLen ∧ (ys.length + 1) * 104 ≤ 140737488355328) := ⟨by unfold maxLen; omega, by omega⟩
   refine step_appE (w1.alloc (.cells #[.bool y0, .slice e1 y1 t1, .slice e2 y2 t2, .slice e3 y3 t3, .slice e4 y4 t4] 54)) rfl _ _ 51 rfl wc.heap.size 54 i0 _ 5 104 Try.underlying51 hi0 hz0 hz1 hz2 rfl (by decide) (.slice a5 ys.length q5) ys.length (flatT ys) rfl (OWd.out.below LB2) (.slice (some ⟨w1.heap.size, 0, none⟩) 1 1) 1 (flatT [⟨y0, .slice e1 y1 t1, .slice e2 y2 t2, .slice e3 y3 t3, .slice e4 y4 t4⟩]) rfl (Row.laid w1 [.bool y0, .slice e1 y1 t1, .slice e2 y2 t2, .slice e3 y3 t3, .slice e4 y4 t4] 54 _ rfl) rfl tv_one HR1.out.1 HR1.out.2 (Nat.le_trans ZZd.out LB2.size) ?_
   intro v5 w5 A5
   have hv5 := A5.1.slice
   obtain ⟨a6, q6, hv5⟩ := hv5
   subst hv5
   have NWz : ∀ g, wrB (.slice a5 ys.length q5) g → wc.heap.size ≤ g ∧ g < wd.heap.size := fun g hg => OWd.out.lt g hg
   have hz1 : w1.heap.size + 1 = (w1.alloc (.cells #[.bool y0, .slice e1 y1 t1, .slice e2 y2 t2, .slice e3 y3 t3, .slice e4 y4 t4] 54)).heap.size := by simp
   have hzd : wd.heap.size ≤ w1.heap.size := LB1.out.size
   have hz5 : w1.heap.size + 1 ≤ w5.heap.size := by rw [hz1]; exact A5.2.1.size
   have hLz := HLZ.out
   have hLs := HLs.out
   have BX5 : Hid (OneAt w5 L #[.bool lf, .slice b1 n1 p1, .slice b2 n2 p2, .slice a5 ys.length q5, .slice b4 n4 p4]) := BX2.out.chg A5.2.1 (fun h => by have := NWz _ h; omega)
   have PS5 : Hid (OneAt w5 w.heap.size #[.bool lf, .slice a1 n1 q1, .slice a2 n2 q2, .slice (some ⟨b3, o3, none⟩) n3 q3, .slice a4 n4 q4]) := PS2.out.chg A5.2.1 (fun h => by have := NWz _ h; omega)
   have CW5 : Hid (Below w.heap.size w w5) := CW2.out.trans (A5.2.1.below (fun g _ hg => by have := NWz g hg; omega) CW2.out.size)
   have CH5 : Hid (Chg (fun g => g = L) wc w5) := (CHd.out.trans (Chg.of_below (F := fun g => g = L) LB2) (fun _ _ h => h)).trans A5.2.1 (fun g hg h => by have := NWz g h; omega)
   have OW5 : Hid (OwnE w5 wc.heap.size 54 5 (.slice a6 (ys.length + 1) q6) (ys.length + 1) (flatT (ys ++ [⟨y0, .slice e1 y1 t1, .slice e2 y2 t2, .slice e3 y3 t3, .slice e4 y4 t4⟩]))) := by
    have := A5.1
    rw [← flatT_append] at this
    exact this
   have NW5 : Hid (∀ g, wrB (.slice a6 (ys.length + 1) q6) g → wc.heap.size ≤ g ∧ (wrB (.slice a5 ys.length q5) g ∨ w1.heap.size + 1 ≤ g)) := fun g hg => ⟨(OW5.out.lt g hg).1, by rw [hz1]; exact A5.2.2.2 g hg⟩
   have TK5 : Hid (∀ i, i < ys.length → TreeD n w5 (KF i) (tvAt ys i) (ts.getD i noTr)) := fun i hi => ((TKd.out i hi).below LB2).chg A5.2.1 (fun g hg => (KPd.out i g hi hg).2.2)
   have TY5 : Hid (TreeD n w5 (fun g => wd.heap.size ≤ g ∧ g < w1.heap.size) ⟨y0, .slice e1 y1 t1, .slice e2 y2 t2, .slice e3 y3 t3, .slice e4 y4 t4⟩ KT) := (TY1.out.below (al1 _ _)).chg A5.2.1 (fun g hg h => by have := NWz g h; omega)
   have NWd : Hid (∀ g, wrB (.slice a5 ys.length q5) g → wc.heap.size ≤ g ∧ g < wd.heap.size) := NWz
   have ZD : Hid (wd.heap.size ≤ w1.heap.size ∧ w1.heap.size + 1 ≤ w5.heap.size ∧ wc.heap.size ≤ wd.heap.size) := ⟨hzd, hz5, ZZd.out⟩
   clear A5 NWz hz1 hzd hz5 LB2 OWd TKd TY1 BX2 PS2 CW2 BX1 PS1 CW1 CHd LB1 HG1
   refine hK.out _ _ (SK.out w5 CW5.out BX5.out PS5.out) (fun hH => ?_)
   clear hK K
   try simp only [Act.put, sA, sB, sC]
   refine tq 10 rfl (by kernel_rfl) (fun _ _ _ h => h) (by assumption) rfl (by intro w h; go_simp <;> with_reducible rfl) ?_
   try simp only [Act.put, sA, sB, sC]
   clear hH
   obtain ⟨⟨m0, m1, m2, m3, m4⟩, k0, k1, k2, k3, k4⟩ := box_all5 BX5.out
   refine wpAnyH_done (by kernel_rfl) ?_ _
   show Oper.wp _ _ _ _ _ _
   go_simp
   have FIN : Hid (∀ v, OwnE (w5.setCell ⟨L, 3, none⟩ v) wc.heap.size 54 5 (.slice a6 (ys.length + 1) q6) (ys.length + 1) (flatT (ys ++ [⟨y0, .slice e1 y1 t1, .slice e2 y2 t2, .slice e3 y3 t3, .slice e4 y4 t4⟩])) ∧ (∀ i, i < ys.length → TreeD n (w5.setCell ⟨L, 3, none⟩ v) (KF i) (tvAt ys i) (ts.getD i noTr)) ∧ TreeD n (w5.setCell ⟨L, 3, none⟩ v) (fun g => wd.heap.size ≤ g ∧ g < w1.heap.size) ⟨y0, .slice e1 y1 t1, .slice e2 y2 t2, .slice e3 y3 t3, .slice e4 y4 t4⟩ KT ∧ Chg (fun g => g = L) wc (w5.setCell ⟨L, 3, none⟩ v) ∧ (w5.setCell ⟨L, 3, none⟩ v).heap.size = w5.heap.size) := fun v =>
    ⟨OW5.out.chg (chg_set1 w5 L 3 v) (fun g hg e => by have := (NW5.out g hg).1; omega), fun i hi => (TK5.out i hi).chg (chg_set1 w5 L 3 v) (fun g hg e => by have := (KPd.out i g hi hg).1; omega), TY5.out.chg (chg_set1 w5 L 3 v) (fun g hg e => by have := ZD.out; omega), CH5.out.trans (chg_set1 w5 L 3 v) (fun _ _ h => h), by simp⟩
   have BX6 : Hid (∀ v, OneAt (w5.setCell ⟨L, 3, none⟩ v) L #[.bool lf, .slice b1 n1 p1, .slice b2 n2 p2, v, .slice b4 n4 p4]) := fun v => heap_setCell_same w5 L 3 _ 54 v BX5.out
   clear OW5 TK5 TY5 CH5 m0 m1 m2 m3 m4 k0 k1 k2 k3 k4 PS5 CW5
   go_wp2_with fail
   go_roundw
   case rel =>
    obtain ⟨f1', f2', f3', f4', f5'⟩ := FIN.out (.slice a6 (ys.length + 1) q6)
    have hln : (ys ++ [(⟨y0, .slice e1 y1 t1, .slice e2 y2 t2, .slice e3 y3 t3, .slice e4 y4 t4⟩ : TV)]).length = ys.length + 1 := by simp
    have hat : ∀ i, i < ys.length → tvAt (ys ++ [(⟨y0, .slice e1 y1 t1, .slice e2 y2 t2, .slice e3 y3 t3, .slice e4 y4 t4⟩ : TV)]) i = tvAt ys i := fun i hi => by simp [tvAt, List.getD, List.getElem?_append_left hi]
    have hal : tvAt (ys ++ [(⟨y0, .slice e1 y1 t1, .slice e2 y2 t2, .slice e3 y3 t3, .slice e4 y4 t4⟩ : TV)]) ys.length = ⟨y0, .slice e1 y1 t1, .slice e2 y2 t2, .slice e3 y3 t3, .slice e4 y4 t4⟩ := by unfold tvAt; simp [List.getD]
    have hzd := ZD.out
    refine ⟨ys ++ [⟨y0, .slice e1 y1 t1, .slice e2 y2 t2, .slice e3 y3 t3, .slice e4 y4 t4⟩], fun i g => if i < ys.length then KF i g else (wd.heap.size ≤ g ∧ g < w1.heap.size), a6, q6, by rw [hln]; go_num, by omega, by rw [hln]; exact BX6.out _, by rw [hln]; exact f1', ?_, ?_, ?_, f4'⟩
    ·intro i hi
     rcases Nat.lt_or_ge i ys.length with h | h
     ·simp only [if_pos h]
      rw [hat i h]
      exact f2' i h
     ·have : i = ys.length := by omega
      subst this
      simp only [Nat.lt_irrefl, if_false]
      rw [hal, hKT]
      exact f3'
    ·intro i g hi hg
     rcases Nat.lt_or_ge i ys.length with h | h
     ·simp only [if_pos h] at hg
      have h3 := KPd.out i g h hg
      refine ⟨h3.1, by rw [f5']; omega, fun k => ?_⟩
      rw [hln] at k
      rcases (NW5.out g k).2 with k | k
      ·exact h3.2.2 k
      ·omega
     ·simp only [if_neg (Nat.not_lt.2 h)] at hg
      refine ⟨by omega, by rw [f5']; omega, fun k => ?_⟩
      rw [hln] at k
      rcases (NW5.out g k).2 with k | k
      ·have := NWd.out g k
       omega
      ·omega
    ·intro i j g hij hj hi hgj
     have h : i < ys.length := by omega
     simp only [if_pos h] at hi
     rcases Nat.lt_or_ge j ys.length with h' | h'
     ·simp only [if_pos h'] at hgj
      exact KD.out i j g hij h' hi hgj
     ·simp only [if_neg (Nat.not_lt.2 h')] at hgj
      have := (KPd.out i g h hi).2.1
      omega
   case measure => simp [intOf]; omega
  ·have hjj : n3 = ys.length := by omega
   subst hjj
   obtain ⟨⟨m0, m1, m2, m3, m4⟩, k0, k1, k2, k3, k4⟩ := box_all5 PR.out
   obtain ⟨x0, x1, x2, x3, x4⟩ := box_cells5 BX.out
   have c3 := (box_cells5 PS.out).2.2.2.1
   have FIN : Hid (∀ v0 v1 v2 v3 v4, TreeD (n + 1) (set5 wr (w.heap.size + 1) v0 v1 v2 v3 v4) (fun g => w.heap.size ≤ g) (⟨lf, .slice b1 n1 p1, .slice b2 n2 p2, .slice a5 ys.length q5, .slice b4 n4 p4⟩ : TV) T ∧ Below w.heap.size w (set5 wr (w.heap.size + 1) v0 v1 v2 v3 v4)) := fun v0 v1 v2 v3 v4 => by
    have hc := chg_set5 wr (w.heap.size + 1) v0 v1 v2 v3 v4
    have hLs := HLs.out
    have hyn := YN.out
    have hbn := BN.out.size
    have hcs := CW.out.size
    have e1 := (D1.out.chg CH.out (fun g hg e => D1.out.ne_one (by decide) XL.out (e ▸ hg))).chg hc (fun g hg e => by have := (D1.out.lt g hg).1; omega)
    have e2 := (D2.out.chg CH.out (fun g hg e => D2.out.ne_one (by decide) XL.out (e ▸ hg))).chg hc (fun g hg e => by have := (D2.out.lt g hg).1; omega)
    have e3 := (D3.out.chg CH.out (fun g hg e => D3.out.ne_one (by decide) XL.out (e ▸ hg))).chg hc (fun g hg e => by have := (D3.out.lt g hg).1; omega)
    have e4 := OW.out.chg hc (fun g hg e => by have := (OW.out.lt g hg).1; omega)
    refine ⟨FINAL.out _ _ _ _ _ _ ys KF (e1.mono (Nat.zero_le _)) (e2.mono (Nat.zero_le _)) (e3.mono (Nat.zero_le _)) rfl (e4.mono (Nat.zero_le _)) (fun i hi => (TK.out i hi).chg hc (fun g hg e => by have := (KP.out i g hi hg).1; omega)) (fun g hg => ?_) (fun i g hi hg => ?_) KD.out, CW.out.trans (hc.below (fun g _ hg => by omega) CW.out.size)⟩
    ·rcases hg with h | h | h | h
     ·have := (D1.out.lt g h).1; omega
     ·have := (D2.out.lt g h).1; omega
     ·have := (D3.out.lt g h).1; omega
     ·have := (OW.out.lt g h).1; omega
    ·obtain ⟨j1, j2, j3⟩ := KP.out i g hi hg
     refine ⟨by omega, fun h => ?_⟩
     rcases h with h | h | h | h
     ·have := (D1.out.lt g h).2; omega
     ·have := (D2.out.lt g h).2; omega
     ·have := (D3.out.lt g h).2; omega
     ·exact j3 h
   clear HG HE DC HA FINAL BX PS PR CS CR CW OW TK KP KD CH D1 D2 D3
   go_wp2
   refine bodyPost_ret (v := .agg #[.bool lf, .slice b1 n1 p1, .slice b2 n2 p2, .slice a5 ys.length q5, .slice b4 n4 p4]) (by simp [results, Try.results35, go_sem, m0, m1, m2, m3, m4]) rfl ⟨⟨lf, .slice b1 n1 p1, .slice b2 n2 p2, .slice a5 ys.length q5, .slice b4 n4 p4⟩, rfl, (FIN.out _ _ _ _ _).1, (FIN.out _ _ _ _ _).2⟩

theorem copy_all : ∀ n, CopyIs n
 | 0 => fun _ _ _ h => h.elim
 | n + 1 => copy_of (copy_all n)
end
end Go.Proofs.Ytekcnibohikmdaa
