/-
  The contract of the model's l4Down, by that of l4Give.
-/
import Derived.Test.YtekcnibohikmdaaOfWrites23
import Derived.Test.YtekcnibohikmdaaOfWrites27
namespace Go.Proofs.Ytekcnibohikmdaa
set_option maxRecDepth 100000
set_option maxHeartbeats 8000000
section
open Go.RowKit

def GiveIs (d : Nat) : Prop := ∀ (F : Nat → Prop) (x : TV) (T : Tr) (vm : Value) (ms : ML) (w : World), TreeF d w F x T → Row w vm ms.length (flatM ms) → shT d T → 0 < ms.length → wt d T + ms.length ≤ 1000000 →
 Calls Try.prog 50 #[x.val, vm] w fun e w' => ∃ v1 v2, e = .returned (.agg #[v1, v2]) ∧ TreesF d w' (fun b => F b ∨ w.heap.size ≤ b) v1 (giveM d T ms).1 ∧ RowF w' (fun b => F b ∨ w.heap.size ≤ b) v2 (giveM d T ms).2.length (flatI (giveM d T ms).2) ∧ Below w.heap.size w w'
def DownIs (d : Nat) : Prop := ∀ (F : Nat → Prop) (vt vc vb : Value) (m : TM) (buf : ML) (w : World), TreesF d w F vt m.1 → RowF w F vc m.2.length (flatI m.2) → Row w vb buf.length (flatM buf) → MOk d m → wtL d m.1 + buf.length ≤ 1000000 →
 Calls Try.prog 64 #[.agg #[vt, vc], vb] w fun e w' => ∃ v1 v2, e = .returned (.agg #[v1, v2]) ∧ TreesF d w' (fun b => F b ∨ w.heap.size ≤ b) v1 (downM (giveM d) m buf).1 ∧ RowF w' (fun b => F b ∨ w.heap.size ≤ b) v2 (downM (giveM d) m buf).2.length (flatI (downM (giveM d) m buf).2) ∧ Below w.heap.size w w'

theorem wt_at {d : Nat} {ts : List Tr} {i : Nat} (h : i < ts.length) : wt d (ts.getD i noTr) ≤ wtL d ts := by
 induction ts generalizing i with
 | nil => simp at h
 | cons t l ih =>
  rw [wtL_cons]
  cases i with
  | zero => simp
  | succ i =>
   have := ih (i := i) (by simpa using h)
   simp only [List.getD_cons_succ]
   omega
theorem kidM_le {d : Nat} {m : TM} (hm : MOk d m) (buf : ML) {i : Nat} (hi : i < m.1.length) : (kidM (giveM d) m buf i).1.length ≤ wtL d m.1 + buf.length ∧ (kidM (giveM d) m buf i).2.length ≤ wtL d m.1 + buf.length := by
 obtain ⟨k1, k2⟩ := kidM_ok (giveM_ok d) hm buf i hi
 have h1 := wtL_length k1.2
 have h2 := wt_at (d := d) hi
 have h3 := mineF_length m.2 i buf
 have h4 := k1.1
 exact ⟨by omega, by omega⟩
theorem sum_take_le (f : Tr → Nat) (l : List Tr) (k : Nat) : ((l.take k).map f).sum ≤ (l.map f).sum := by
 have h : (l.map f).sum = ((l.take k).map f).sum + ((l.drop k).map f).sum := by rw [← List.sum_append, ← List.map_append, List.take_append_drop]
 omega
theorem side_le {d : Nat} {m : TM} (hm : MOk d m) (buf : ML) {k : Nat} (hk : k ≤ m.1.length) : (sideT (kidM (giveM d) m buf) k).length ≤ wtL d m.1 + buf.length ∧ (sideC (kidM (giveM d) m buf) m.2 k).length ≤ wtL d m.1 + buf.length := by
 obtain ⟨k1, k2, k3, _⟩ := side_ok (d := d) (m := m) (kidM (giveM d) m buf) (fun i => (mineF m.2 i buf).length) (kidM_ok (giveM_ok d) hm buf) k hk
 rw [mineSum_range] at k3
 have h1 := mineSum_le m.2 buf k
 have h2 := sum_take_le (wt d) m.1 k
 have h3 := wtL_length k1
 unfold wtL at *
 refine ⟨by omega, ?_⟩
 split at k2 <;> omega

theorem down_of {d : Nat} (H : GiveIs d) : DownIs d := by
 intro F vt vc vb m buf w ht hc hb hmo hwt
 obtain ⟨i0, hi0, hz0, hz1, hz2⟩ := info_parts Try.info54
 obtain ⟨j0, hj0', hy0, hy1, hy2⟩ := info_parts Try.info3
 obtain ⟨xs0, hxl, hrow, hel⟩ := ht
 have hmo1 := hmo.1
 have HE : Hid (∀ i, i < xs0.length → TreeF d w (fun g => F g ∧ g < w.heap.size) (tvAt xs0 i) (m.1.getD i noTr)) := fun i hi => (hel i hi).lt
 obtain ⟨av, b1, off1, c1, hvt, hcap1, hmax1, ha1, d0, d1, d2, d3, d4⟩ := hrow.row.trees
 have HCR : Hid (Row w vc m.2.length (flatI m.2)) := hc.row
 obtain ⟨bv, b2, off2, c2, hvc, hcap2, hmax2, ha2, ck⟩ := hc.row.ints
 subst hvt
 subst hvc
 have hav := ha1 (by omega)
 subst hav
 unfold maxLen at hmax1 hmax2
 have hwl : m.1.length ≤ 1000000 := by have := wtL_length hmo.2; omega
 have HS : Hid (∀ (j : Nat) (w1 : World), Below w.heap.size w w1 → Calls Try.prog 62 #[.agg #[.slice (some ⟨b1, off1, none⟩) xs0.length c1, .slice bv m.2.length c2], vb, .int .i64 (j : Nat)] w1 fun e w' => ∃ v1 v2, e = .returned (.tuple #[v1, v2]) ∧ w'.ownsRow w1.heap.size 73 3 v1 (mineF m.2 j buf).length (flatM (mineF m.2 j buf)) ∧ w'.ownsRow w1.heap.size 73 3 v2 (restF m.2 j buf).length (flatM (restF m.2 j buf)) ∧ Below w1.heap.size w1 w') :=
  fun j w1 h => l4Split_any (some ⟨b1, off1, none⟩) xs0.length c1 _ vb m.2 buf j w1 (HCR.out.below h) (hb.below h) (by omega)
 have HG : Hid (∀ (j : Nat) (vm : Value) (w1 : World), j < m.1.length → Below w.heap.size w w1 → Row w1 vm (mineF m.2 j buf).length (flatM (mineF m.2 j buf)) → 0 < (mineF m.2 j buf).length → Calls Try.prog 50 #[(tvAt xs0 j).val, vm] w1 fun e w' => ∃ v1 v2, e = .returned (.agg #[v1, v2]) ∧ TreesF d w' (fun b => (F b ∧ b < w.heap.size) ∨ w1.heap.size ≤ b) v1 (giveM d (m.1.getD j noTr) (mineF m.2 j buf)).1 ∧ RowF w' (fun b => (F b ∧ b < w.heap.size) ∨ w1.heap.size ≤ b) v2 (giveM d (m.1.getD j noTr) (mineF m.2 j buf)).2.length (flatI (giveM d (m.1.getD j noTr) (mineF m.2 j buf)).2) ∧ Below w1.heap.size w1 w') :=
  fun j vm w1 hj hbw hr hp => H (fun b => F b ∧ b < w.heap.size) (tvAt xs0 j) (m.1.getD j noTr) vm (mineF m.2 j buf) w1 ((HE.out j (by omega)).frame (fun g hg _ => hbw.block g hg.2)) hr (hmo.2 _ (getD_mem hj)) hp (by have := wt_at (d := d) hj; have := mineF_length m.2 j buf; omega)
 obtain ⟨a4, q4, hvb, _⟩ := hb.len
 subst hvb
 have FX : Hid (∀ j, 0 < (mineF m.2 j buf).length → kidM (giveM d) m buf j = giveM d (m.1.getD j noTr) (mineF m.2 j buf)) := fun j h => by show _ = _; rw [kidM, if_pos h]
 have FY : Hid (∀ j, ¬ 0 < (mineF m.2 j buf).length → kidM (giveM d) m buf j = ([m.1.getD j noTr], [])) := fun j h => by show _ = _; rw [kidM, if_neg h]
 have KL : Hid (∀ j, j < m.1.length → (kidM (giveM d) m buf j).1.length ≤ 1000000 ∧ (kidM (giveM d) m buf j).2.length ≤ 1000000) := fun j hj => by have := kidM_le hmo buf hj; omega
 have SL : Hid (∀ j, j ≤ m.1.length → (sideT (kidM (giveM d) m buf) j).length ≤ 1000000 ∧ (sideC (kidM (giveM d) m buf) m.2 j).length ≤ 1000000) := fun j hj => by have := side_le hmo buf hj; omega
 show Calls Try.prog 64 #[.agg #[.slice (some ⟨b1, off1, none⟩) xs0.length c1, .slice bv m.2.length c2], .slice a4 buf.length q4] w fun e w' => ∃ v1 v2, e = .returned (.agg #[v1, v2]) ∧ TreesF d w' (fun b => F b ∨ w.heap.size ≤ b) v1 (sideT (kidM (giveM d) m buf) m.1.length) ∧ RowF w' (fun b => F b ∨ w.heap.size ≤ b) v2 (sideC (kidM (giveM d) m buf) m.2 m.1.length).length (flatI (sideC (kidM (giveM d) m buf) m.2 m.1.length)) ∧ Below w.heap.size w w'
 have ST : Hid (∀ j, sideT (kidM (giveM d) m buf) (j + 1) = sideT (kidM (giveM d) m buf) j ++ (kidM (giveM d) m buf j).1) := fun j => rfl
 have SC0 : Hid (∀ j, ¬ 0 < j → sideC (kidM (giveM d) m buf) m.2 (j + 1) = sideC (kidM (giveM d) m buf) m.2 j ++ (kidM (giveM d) m buf j).2) := fun j hj => by
  show sideC (kidM (giveM d) m buf) m.2 j ++ (if 0 < j then [iAt m.2 (j - 1)] else []) ++ (kidM (giveM d) m buf j).2 = _
  rw [if_neg hj, List.append_nil]
 have SC1 : Hid (∀ j, sideC (kidM (giveM d) m buf) m.2 (j + 1 + 1) = (sideC (kidM (giveM d) m buf) m.2 (j + 1) ++ [iAt m.2 j]) ++ (kidM (giveM d) m buf (j + 1)).2) := fun j => rfl
 have T00 : Hid (sideT (kidM (giveM d) m buf) 0 = []) := rfl
 have C00 : Hid (sideC (kidM (giveM d) m buf) m.2 0 = []) := rfl
 have CK : Hid (∀ (j : Nat) (w1 : World), Below w.heap.size w w1 → j < m.2.length → bv = some ⟨b2, off2, none⟩ ∧ w1.cell? ⟨b2, off2 + j, none⟩ = some (.int .i64 (iAt m.2 j))) := fun j w1 h hj => ⟨ha2 (by omega), cell_lowB h (cell_lt (ck j hj)) (ck j hj)⟩
 have PG : Hid (∀ g, g = w.heap.size + 1 ∨ g = w.heap.size + 1 + 1 → ¬ ((F g ∧ g < w.heap.size) ∨ w.heap.size + 3 ≤ g) ∧ g < w.heap.size + 3) := fun g hg => ⟨fun k => by rcases k with ⟨_, k⟩ | k <;> omega, by omega⟩
 have DC : Hid (∀ (j : Nat) (w1 : World), Below w.heap.size w w1 → j < xs0.length → w1.cell? ⟨b1, off1 + j * 5, none⟩ = some (.bool (tvAt xs0 j).lf) ∧ w1.cell? ⟨b1, off1 + j * 5 + 1, none⟩ = some (tvAt xs0 j).p ∧ w1.cell? ⟨b1, off1 + j * 5 + 2, none⟩ = some (tvAt xs0 j).c ∧ w1.cell? ⟨b1, off1 + j * 5 + 3, none⟩ = some (tvAt xs0 j).k ∧ w1.cell? ⟨b1, off1 + j * 5 + 4, none⟩ = some (tvAt xs0 j).b) :=
  fun j w1 h hj => ⟨cell_lowB h (cell_lt (d0 j hj)) (d0 j hj), cell_lowB h (cell_lt (d1 j hj)) (d1 j hj), cell_lowB h (cell_lt (d2 j hj)) (d2 j hj), cell_lowB h (cell_lt (d3 j hj)) (d3 j hj), cell_lowB h (cell_lt (d4 j hj)) (d4 j hj)⟩
 clear d0 d1 d2 d3 d4 ck ha1 ha2 hrow hc hel hb hmo hwt HCR H
 rw [hxl] at *
 generalize sideT (kidM (giveM d) m buf) = fT at *
 generalize sideC (kidM (giveM d) m buf) m.2 = fC at *
 generalize kidM (giveM d) m buf = fx at *
 generalize hn1 : m.1.length = n1 at *
 generalize hn2 : m.2.length = n2 at *
 have B0 : Hid (Below w.heap.size w (((w.alloc (.cells #[.slice (some ⟨b1, off1, none⟩) n1 c1, .slice bv n2 c2] 95)).alloc (.cells #[.slice none 0 0, .slice none 0 0] 95)).alloc (.cells #[.slice none 0 0, .slice none 0 0] 95))) := al3 _ _ _ _
 have X0 : Hid (BoxM (((w.alloc (.cells #[.slice (some ⟨b1, off1, none⟩) n1 c1, .slice bv n2 c2] 95)).alloc (.cells #[.slice none 0 0, .slice none 0 0] 95)).alloc (.cells #[.slice none 0 0, .slice none 0 0] 95)) w.heap.size #[.slice (some ⟨b1, off1, none⟩) n1 c1, .slice bv n2 c2]) := ((BoxM.start w _).alloc _).alloc _
 have X1 : Hid (BoxM (((w.alloc (.cells #[.slice (some ⟨b1, off1, none⟩) n1 c1, .slice bv n2 c2] 95)).alloc (.cells #[.slice none 0 0, .slice none 0 0] 95)).alloc (.cells #[.slice none 0 0, .slice none 0 0] 95)) (w.heap.size + 1) #[.slice none 0 0, .slice none 0 0]) := by
  have := (BoxM.start (w.alloc (.cells #[.slice (some ⟨b1, off1, none⟩) n1 c1, .slice bv n2 c2] 95)) #[.slice none 0 0, .slice none 0 0]).alloc (.cells #[.slice none 0 0, .slice none 0 0] 95)
  rw [World.size_alloc] at this
  exact this
 have X2 : Hid (BoxM (((w.alloc (.cells #[.slice (some ⟨b1, off1, none⟩) n1 c1, .slice bv n2 c2] 95)).alloc (.cells #[.slice none 0 0, .slice none 0 0] 95)).alloc (.cells #[.slice none 0 0, .slice none 0 0] 95)) (w.heap.size + 1 + 1) #[.slice none 0 0, .slice none 0 0]) := by
  have := BoxM.start ((w.alloc (.cells #[.slice (some ⟨b1, off1, none⟩) n1 c1, .slice bv n2 c2] 95)).alloc (.cells #[.slice none 0 0, .slice none 0 0] 95)) #[.slice none 0 0, .slice none 0 0]
  rw [World.size_alloc, World.size_alloc] at this
  exact this
 have Z0 : Hid (w.heap.size + 3 ≤ (((w.alloc (.cells #[.slice (some ⟨b1, off1, none⟩) n1 c1, .slice bv n2 c2] 95)).alloc (.cells #[.slice none 0 0, .slice none 0 0] 95)).alloc (.cells #[.slice none 0 0, .slice none 0 0] 95)).heap.size) := by show _ ≤ _; simp
 generalize hn4 : buf.length = n4 at *
 go_enter Try.func64, Try.ntmps64
 go_wp2
 refine wp_gen (fun W => BoxM W w.heap.size #[.slice (some ⟨b1, off1, none⟩) n1 c1, .slice bv n2 c2] ∧ BoxM W (w.heap.size + 1) #[.slice none 0 0, .slice none 0 0] ∧ BoxM W (w.heap.size + 1 + 1) #[.slice none 0 0, .slice none 0 0] ∧ Below w.heap.size w W ∧ w.heap.size + 3 ≤ W.heap.size) ⟨X0.out, X1.out, X2.out, B0.out, Z0.out⟩ ?_
 rintro W ⟨Y0, Y1, Y2, YB, YZ⟩
 clear X0 X1 X2 B0 Z0
 go_loopw [6] (fun i wr => ∃ (j : Nat) (a1 a2 : Option Addr) (q1 q2 : Nat), i = .int .i64 j ∧ j ≤ n1 ∧ Hid (OutM d (w.heap.size + 3) (fun g => (F g ∧ g < w.heap.size) ∨ w.heap.size + 3 ≤ g) wr (.slice a1 (fT j).length q1) (.slice a2 (fC j).length q2) (fT j) (fC j)) ∧ Hid (BoxM wr (w.heap.size + 1 + 1) #[.slice a1 (fT j).length q1, .slice a2 (fC j).length q2]) ∧ Hid (BoxM wr (w.heap.size + 1) #[.slice none 0 0, .slice none 0 0]) ∧ Hid (BoxM wr w.heap.size #[.slice (some ⟨b1, off1, none⟩) n1 c1, .slice bv n2 c2]) ∧ Hid (Below w.heap.size w wr) ∧ Hid (w.heap.size + 3 ≤ wr.heap.size))
  (fun i _ => n1 - (intOf i).toNat)
 case atStart => exact ⟨0, none, none, 0, 0, rfl, Nat.zero_le _, by rw [T00.out, C00.out]; exact OutM.nil _ _ _ _, by rw [T00.out, C00.out]; exact Y2, Y1, Y0, YB, YZ⟩
 case round =>
  obtain ⟨j, a1, a2, q1, q2, rfl, hjn, OM, BX, BR, BM, BW, ZW⟩ := hrel
  clear Y0 Y1 Y2 YB YZ T00 C00
  by_cases hlt : j < n1
  ·have HS1 : Hid _ := HS.out j wr BW.out
   have HG1 : Hid (∀ (vm : Value) (w1 : World), _) := fun vm w1 => HG.out j vm w1 hlt
   have FX1 : Hid _ := FX.out j
   have FY1 : Hid _ := FY.out j
   have hk1 := KL.out j hlt
   have hs1 := SL.out j hjn
   have hs2 := SL.out (j + 1) hlt
   have ST1 : Hid _ := ST.out j
   have KD : Hid (TreeF d w (fun g => F g ∧ g < w.heap.size) (tvAt xs0 j) (m.1.getD j noTr)) := HE.out j hlt
   have DC1 : Hid (∀ (w1 : World), Below w.heap.size w w1 → _) := fun w1 h => DC.out j w1 h hlt
   obtain ⟨r1, r2, r3, r4, s1, s2, s3, s4, hy⟩ := KD.out.treeAt.shape
   rw [hy] at KD DC1 HG1
   generalize hKT : m.1.getD j noTr = KT at *
   generalize KT.leaf = z0 at *
   generalize KT.pairs.length = z1 at *
   generalize KT.cuts.length = z2 at *
   generalize KT.kids.length = z3 at *
   generalize KT.buf.length = z4 at *
   generalize mineF m.2 j buf = MM at *
   generalize restF m.2 j buf = RR at *
   clear hy hKT HS HG FX FY KL SL ST HE DC
   have hi1 : (0 : Int) ≤ (j : Int) := by omega
   have hi2 : (j : Int) < (n1 : Int) := by omega
   obtain ⟨x0, x1⟩ := BM.out.two
   go_wp2_with fail
   refine Calls.mono HS1.out ?_
   rintro e w1 ⟨v1, v2, rfl, o1, o2, hb1⟩
   obtain ⟨am, qm, rfl, _⟩ := (Row.of_owns o1).len
   obtain ⟨ar, qr, rfl, _⟩ := (Row.of_owns o2).len
   have RM : Hid (Row w1 (.slice am MM.length qm) MM.length (flatM MM)) := Row.of_owns o1
   have B1 : Hid (Below w.heap.size w w1) := Below.and BW.out hb1
   have L1 : Hid (Below wr.heap.size wr w1) := hb1
   obtain ⟨t0, t1, t2, t3, t4⟩ := DC1.out w1 B1.out
   try simp only at t0 t1 t2 t3 t4
   obtain ⟨x2, x3⟩ := (BM.out.step hb1 BM.out.lt).two
   clear x0 x1 o1 o2 hb1 HS1
   generalize hML : MM.length = LM at *
   go_upto_if 34 with fail
   refine wp_gen (fun V => BoxM V (w1.heap.size + 1) #[.slice (some ⟨w1.heap.size, 0, none⟩) 1 1, .slice none 0 0] ∧ RowF V (fun g => g = w1.heap.size) (.slice (some ⟨w1.heap.size, 0, none⟩) 1 1) 1 [.bool z0, .slice r1 z1 s1, .slice r2 z2 s2, .slice r3 z3 s3, .slice r4 z4 s4] ∧ Below w1.heap.size w1 V ∧ w1.heap.size + 2 ≤ V.heap.size) ?_ ?_
   ·refine ⟨?_, ?_, al2 _ _ _, by simp⟩
    ·have := BoxM.start (w1.alloc (.cells #[.bool z0, .slice r1 z1 s1, .slice r2 z2 s2, .slice r3 z3 s3, .slice r4 z4 s4] 54)) #[.slice (some ⟨w1.heap.size, 0, none⟩) 1 1, .slice none 0 0]
     rw [World.size_alloc] at this
     exact this
    ·exact (RowF.laid w1 [.bool z0, .slice r1 z1 s1, .slice r2 z2 s2, .slice r3 z3 s3, .slice r4 z4 s4] 54 w1.heap.size rfl).below (al1 _ _)
   rintro V ⟨VX0, VR0, VB0, VZ0⟩
   have VX : Hid (BoxM V (w1.heap.size + 1) #[.slice (some ⟨w1.heap.size, 0, none⟩) 1 1, .slice none 0 0]) := VX0
   have VR : Hid (RowF V (fun g => g = w1.heap.size) (.slice (some ⟨w1.heap.size, 0, none⟩) 1 1) 1 [.bool z0, .slice r1 z1 s1, .slice r2 z2 s2, .slice r3 z3 s3, .slice r4 z4 s4]) := VR0
   have VL : Hid (Below wr.heap.size wr V) := Below.and L1.out VB0
   have VB : Hid (Below w.heap.size w V) := Below.and B1.out VB0
   have VZ : Hid (w1.heap.size + 2 ≤ V.heap.size) := VZ0
   have Z1 : Hid (wr.heap.size ≤ w1.heap.size) := L1.out.size
   have RM' : Hid (Row V (.slice am LM qm) LM (flatM MM)) := RM.out.below VB0
   clear VX0 VR0 VB0 VZ0 t0 t1 t2 t3 t4 x2 x3 RM
   have NT : Hid (∀ g, wrB (.slice a1 (fT j).length q1) g → g < wr.heap.size ∧ w.heap.size + 3 ≤ g) := fun g hg => by
    obtain ⟨xs', z1, z2, z3, z4, z5⟩ := OM.out
    exact ⟨(z2.lt g hg).2, (z2.lt g hg).1⟩
   have NC : Hid (∀ g, wrB (.slice a2 (fC j).length q2) g → g < wr.heap.size ∧ w.heap.size + 3 ≤ g) := fun g hg => ⟨(OM.out.rowC.lt g hg).2, (OM.out.rowC.lt g hg).1⟩
   have OFF : Hid (∀ g, (F g ∧ g < w.heap.size) ∨ wr.heap.size ≤ g → offB (fun g => (F g ∧ g < w.heap.size) ∨ w.heap.size + 3 ≤ g) (.slice a1 (fT j).length q1) (.slice a2 (fC j).length q2) g) := fun g hg => ⟨hg.elim (fun h => .inl h) (fun h => .inr (Nat.le_trans ZW.out h)), fun k => by have := NT.out g k; rcases hg with h | h <;> omega, fun k => by have := NC.out g k; rcases hg with h | h <;> omega⟩
   go_cut [7, 9] (fun _ s9 wx => ∃ (L : Nat) (ax ay : Option Addr) (qx qy : Nat), s9 = .pointer (some ⟨L, 0, none⟩) ∧ w.heap.size + 3 ≤ L ∧ Hid (BoxM wx L #[.slice ax (fx j).1.length qx, .slice ay (fx j).2.length qy]) ∧ Hid (TreesF d wx (offB (fun g => (F g ∧ g < w.heap.size) ∨ w.heap.size + 3 ≤ g) (.slice a1 (fT j).length q1) (.slice a2 (fC j).length q2)) (.slice ax (fx j).1.length qx) (fx j).1) ∧ Hid (RowF wx (offB (fun g => (F g ∧ g < w.heap.size) ∨ w.heap.size + 3 ≤ g) (.slice a1 (fT j).length q1) (.slice a2 (fC j).length q2)) (.slice ay (fx j).2.length qy) (fx j).2.length (flatI (fx j).2)) ∧ Hid (OutM d (w.heap.size + 3) (fun g => (F g ∧ g < w.heap.size) ∨ w.heap.size + 3 ≤ g) wx (.slice a1 (fT j).length q1) (.slice a2 (fC j).length q2) (fT j) (fC j)) ∧ Hid (BoxM wx (w.heap.size + 1 + 1) #[.slice a1 (fT j).length q1, .slice a2 (fC j).length q2]) ∧ Hid (BoxM wx (w.heap.size + 1) #[.slice none 0 0, .slice none 0 0]) ∧ Hid (BoxM wx w.heap.size #[.slice (some ⟨b1, off1, none⟩) n1 c1, .slice bv n2 c2]) ∧ Hid (Below w.heap.size w wx) ∧ Hid (w.heap.size + 3 ≤ wx.heap.size))
   case first =>
    by_cases hq : 0 < LM
    ·have E : Hid _ := FX1.out hq
     have HG2 : Hid _ := HG1.out (.slice am LM qm) V VB.out RM'.out hq
     generalize giveM d KT MM = GM at *
     clear HG1 FX1 FY1
     obtain ⟨t0, t1, t2, t3, t4⟩ := DC1.out V VB.out
     try simp only at t0 t1 t2 t3 t4
     obtain ⟨x2, x3⟩ := (BM.out.step VL.out BM.out.lt).two
     have hq' : (0 : Int) < (LM : Int) := by omega
     go_wp2_with fail
     refine Calls.mono HG2.out ?_
     rintro e w3 ⟨u1, u2, rfl, TG, RG, hb3⟩
     obtain ⟨ax, qx, hu1, _⟩ := (show Row w3 u1 GM.1.length _ from (TG.els.choose_spec.2).row).len
     obtain ⟨ay, qy, hu2, _⟩ := RG.row.len
     subst hu1
     subst hu2
     have BX3 : Hid (BoxM w3 (w1.heap.size + 1) #[.slice (some ⟨w1.heap.size, 0, none⟩) 1 1, .slice none 0 0]) := VX.out.step hb3 VX.out.lt
     have L3 : Hid (Below wr.heap.size wr w3) := Below.and VL.out hb3
     have FIN : Hid (∀ v v', TreesF d (set2 w3 (w1.heap.size + 1) v v') (offB (fun g => (F g ∧ g < w.heap.size) ∨ w.heap.size + 3 ≤ g) (.slice a1 (fT j).length q1) (.slice a2 (fC j).length q2)) (.slice ax GM.1.length qx) GM.1 ∧ RowF (set2 w3 (w1.heap.size + 1) v v') (offB (fun g => (F g ∧ g < w.heap.size) ∨ w.heap.size + 3 ≤ g) (.slice a1 (fT j).length q1) (.slice a2 (fC j).length q2)) (.slice ay GM.2.length qy) GM.2.length (flatI GM.2) ∧ OutM d (w.heap.size + 3) (fun g => (F g ∧ g < w.heap.size) ∨ w.heap.size + 3 ≤ g) (set2 w3 (w1.heap.size + 1) v v') (.slice a1 (fT j).length q1) (.slice a2 (fC j).length q2) (fT j) (fC j) ∧ BoxM (set2 w3 (w1.heap.size + 1) v v') (w.heap.size + 1 + 1) #[.slice a1 (fT j).length q1, .slice a2 (fC j).length q2] ∧ BoxM (set2 w3 (w1.heap.size + 1) v v') (w.heap.size + 1) #[.slice none 0 0, .slice none 0 0] ∧ BoxM (set2 w3 (w1.heap.size + 1) v v') w.heap.size #[.slice (some ⟨b1, off1, none⟩) n1 c1, .slice bv n2 c2] ∧ Below w.heap.size w (set2 w3 (w1.heap.size + 1) v v') ∧ w.heap.size + 3 ≤ (set2 w3 (w1.heap.size + 1) v v').heap.size) := fun v v' => by
      have hz1 := Z1.out
      have hz := ZW.out
      have hvz := VZ.out
      have hl3 := L3.out.size
      have hc := chg_set2 w3 (w1.heap.size + 1) v v'
      have hB : Below wr.heap.size w3 (set2 w3 (w1.heap.size + 1) v v') := hc.below (fun g _ hg => by omega) (by omega)
      have hB' : Below wr.heap.size wr (set2 w3 (w1.heap.size + 1) v v') := L3.out.trans hB
      refine ⟨(TG.chg hc (fun g hg k => by rcases hg with h | h <;> omega)).mono (fun g hg => OFF.out g (hg.imp id (fun h => by omega))), (RG.chg hc (fun g hg k => by rcases hg with h | h <;> omega)).mono (fun g hg => OFF.out g (hg.imp id (fun h => by omega))), OM.out.below hB', BX.out.step hB' BX.out.lt, BR.out.step hB' BR.out.lt, BM.out.step hB' BM.out.lt, Below.and BW.out hB', Nat.le_trans hz hB'.size⟩
     obtain ⟨m0, m1⟩ := BX3.out.two
     obtain ⟨f0, f1⟩ := BX3.out.free
     clear TG RG hb3 t0 t1 t2 t3 t4 x2 x3 HG2
     go_wp2
     go_meet
     case rel =>
      rw [E.out]
      exact ⟨w1.heap.size + 1, ax, ay, qx, qy, rfl, Nat.le_trans (Nat.le_trans ZW.out Z1.out) (Nat.le_succ _), BX3.out.set2 _ _, (FIN.out _ _).1, (FIN.out _ _).2.1, (FIN.out _ _).2.2.1, (FIN.out _ _).2.2.2.1, (FIN.out _ _).2.2.2.2.1, (FIN.out _ _).2.2.2.2.2.1, (FIN.out _ _).2.2.2.2.2.2.1, (FIN.out _ _).2.2.2.2.2.2.2⟩
    ·have E : Hid _ := FY1.out hq
     have hq' : ¬ (0 : Int) < (LM : Int) := by omega
     have TX : Hid (TreesF d V (offB (fun g => (F g ∧ g < w.heap.size) ∨ w.heap.size + 3 ≤ g) (.slice a1 (fT j).length q1) (.slice a2 (fC j).length q2)) (.slice (some ⟨w1.heap.size, 0, none⟩) 1 1) [KT]) := by
      refine ⟨[⟨z0, .slice r1 z1 s1, .slice r2 z2 s2, .slice r3 z3 s3, .slice r4 z4 s4⟩], rfl, VR.out.mono (fun g hg => OFF.out g (.inr (by have := Z1.out; omega))), fun i hi => ?_⟩
      have hi0 : i = 0 := by simp at hi; omega
      subst hi0
      exact (KD.out.frame (fun g hg _ => VB.out.block g hg.2)).mono (fun g hg => OFF.out g (.inl hg))
     have FIN : Hid (OutM d (w.heap.size + 3) (fun g => (F g ∧ g < w.heap.size) ∨ w.heap.size + 3 ≤ g) V (.slice a1 (fT j).length q1) (.slice a2 (fC j).length q2) (fT j) (fC j) ∧ BoxM V (w.heap.size + 1 + 1) #[.slice a1 (fT j).length q1, .slice a2 (fC j).length q2] ∧ BoxM V (w.heap.size + 1) #[.slice none 0 0, .slice none 0 0] ∧ BoxM V w.heap.size #[.slice (some ⟨b1, off1, none⟩) n1 c1, .slice bv n2 c2] ∧ w.heap.size + 3 ≤ V.heap.size) := ⟨OM.out.below VL.out, BX.out.step VL.out BX.out.lt, BR.out.step VL.out BR.out.lt, BM.out.step VL.out BM.out.lt, Nat.le_trans ZW.out VL.out.size⟩
     clear HG1 FX1 FY1
     go_wp2
     go_meet
     case rel =>
      rw [E.out]
      exact ⟨w1.heap.size + 1, some ⟨w1.heap.size, 0, none⟩, none, 1, 0, rfl, Nat.le_trans (Nat.le_trans ZW.out Z1.out) (Nat.le_succ _), VX, TX, RowF.nil _ _, FIN.out.1, FIN.out.2.1, FIN.out.2.2.1, FIN.out.2.2.2.1, VB, FIN.out.2.2.2.2⟩
   case rest =>
   obtain ⟨L, ax, ay, qx, qy, rfl, hL, XL, XT, XC, OM1, BX1, BR1, BM1, BW1, ZW1⟩ := hcut
   clear OM BX BR BM BW ZW VX VR VL VB VZ RM' NT NC OFF KD DC1 HG1 FX1 FY1 B1 L1 Z1
   go_upto_if 43 with fail
   go_cut [9] (fun s9 wx => s9 = .pointer (some ⟨L, 0, none⟩) ∧ ∃ (cs' : List Int) (a3 : Option Addr) (q3 : Nat), Hid (fC (j + 1) = cs' ++ (fx j).2) ∧ Hid (BoxM wx L #[.slice ax (fx j).1.length qx, .slice ay (fx j).2.length qy]) ∧ Hid (TreesF d wx (offB (fun g => (F g ∧ g < w.heap.size) ∨ w.heap.size + 3 ≤ g) (.slice a1 (fT j).length q1) (.slice a3 cs'.length q3)) (.slice ax (fx j).1.length qx) (fx j).1) ∧ Hid (RowF wx (offB (fun g => (F g ∧ g < w.heap.size) ∨ w.heap.size + 3 ≤ g) (.slice a1 (fT j).length q1) (.slice a3 cs'.length q3)) (.slice ay (fx j).2.length qy) (fx j).2.length (flatI (fx j).2)) ∧ Hid (OutM d (w.heap.size + 3) (fun g => (F g ∧ g < w.heap.size) ∨ w.heap.size + 3 ≤ g) wx (.slice a1 (fT j).length q1) (.slice a3 cs'.length q3) (fT j) cs') ∧ Hid (BoxM wx (w.heap.size + 1 + 1) #[.slice a1 (fT j).length q1, .slice a3 cs'.length q3]) ∧ Hid (BoxM wx (w.heap.size + 1) #[.slice none 0 0, .slice none 0 0]) ∧ Hid (BoxM wx w.heap.size #[.slice (some ⟨b1, off1, none⟩) n1 c1, .slice bv n2 c2]) ∧ Hid (Below w.heap.size w wx) ∧ Hid (w.heap.size + 3 ≤ wx.heap.size))
   case first =>
    cases j with
    | zero =>
     have E : Hid _ := SC0.out 0 (by omega)
     go_wp2
     go_meet
     case rel => exact ⟨rfl, fC 0, a2, q2, E, XL, XT, XC, OM1, BX1, BR1, BM1, BW1, ZW1⟩
    | succ j =>
     have E : Hid _ := SC1.out j
     have CKj : Hid (∀ w1, Below w.heap.size w w1 → w1.cell? ⟨b2, off2 + j, none⟩ = some (.int .i64 (iAt m.2 j))) := fun w1 hb => (CK.out j w1 hb (by omega)).2
     have hbv : bv = some ⟨b2, off2, none⟩ := (CK.out j wc BW1.out (by omega)).1
     subst hbv
     generalize iAt m.2 j = x5 at *
     have kk := CKj.out wc BW1.out
     have hpos : (0 : Int) < ((j + 1 : Nat) : Int) := by omega
     have hpos2 : 0 < j + 1 := by omega
     have hin : j < n2 := by omega
     have hwk2 : IntKind.i64.wrap (j : Int) = (j : Int) := by rw [IntKind.wrap_i64]; omega
     have hb1 : (0 : Int) ≤ (j : Int) := by omega
     have hb2 : (j : Int) < (n2 : Int) := by omega
     have XLd : Hid (BoxM wc.drew L #[.slice ax (fx (j + 1)).1.length qx, .slice ay (fx (j + 1)).2.length qy]) := XL.out.drew
     have XTd : Hid (TreesF d wc.drew (offB (fun g => (F g ∧ g < w.heap.size) ∨ w.heap.size + 3 ≤ g) (.slice a1 (fT (j + 1)).length q1) (.slice a2 (fC (j + 1)).length q2)) (.slice ax (fx (j + 1)).1.length qx) (fx (j + 1)).1) := XT.out.below (Below.refl _ _).drew
     have XCd : Hid (RowF wc.drew (offB (fun g => (F g ∧ g < w.heap.size) ∨ w.heap.size + 3 ≤ g) (.slice a1 (fT (j + 1)).length q1) (.slice a2 (fC (j + 1)).length q2)) (.slice ay (fx (j + 1)).2.length qy) (fx (j + 1)).2.length (flatI (fx (j + 1)).2)) := XC.out.below (Below.refl _ _).drew
     have OMd : Hid (OutM d (w.heap.size + 3) (fun g => (F g ∧ g < w.heap.size) ∨ w.heap.size + 3 ≤ g) wc.drew (.slice a1 (fT (j + 1)).length q1) (.slice a2 (fC (j + 1)).length q2) (fT (j + 1)) (fC (j + 1))) := OM1.out.drew
     have BXd : Hid (BoxM wc.drew (w.heap.size + 1 + 1) #[.slice a1 (fT (j + 1)).length q1, .slice a2 (fC (j + 1)).length q2]) := BX1.out.drew
     have BRd : Hid (BoxM wc.drew (w.heap.size + 1) #[.slice none 0 0, .slice none 0 0]) := BR1.out.drew
     have BMd : Hid (BoxM wc.drew w.heap.size #[.slice (some ⟨b1, off1, none⟩) n1 c1, .slice (some ⟨b2, off2, none⟩) n2 c2]) := BM1.out.drew
     have BWd : Hid (Below w.heap.size w wc.drew) := BW1.out.drew
     have ZWd : Hid (w.heap.size + 3 ≤ wc.drew.heap.size) := ZW1.out
     have hS : wc.drew.cell? ⟨w.heap.size + 1 + 1, 1, none⟩ = some (.slice a2 (fC (j + 1)).length q2) ∧ wc.drew.cell? ⟨w.heap.size, 1, none⟩ = some (.slice (some ⟨b2, off2, none⟩) n2 c2) ∧ wc.drew.cell? ⟨b2, off2 + j, none⟩ = some (.int .i64 x5) := ⟨BX1.out.two.2, BM1.out.two.2, kk⟩
     clear OM1 BX1 BR1 BM1 BW1 ZW1 XL XT XC kk ST1 CK SC0 SC1
     generalize hfC : fC (j + 1) = cs at *
     go_wp2_with fail
     refine wp_region_last (fun w' => w'.cell? ⟨w.heap.size + 1 + 1, 1, none⟩ = some (.slice a2 cs.length q2) ∧ w'.cell? ⟨w.heap.size, 1, none⟩ = some (.slice (some ⟨b2, off2, none⟩) n2 c2) ∧ w'.cell? ⟨b2, off2 + j, none⟩ = some (.int .i64 x5)) [_, _, _, _, _, _, _, _, _, _, _] _ rfl (by kernel_rfl) (by kernel_rfl) ?_
     generalize wc.drew = wd at *
     refine tq 0 rfl (by kernel_rfl) (fun _ _ _ h => h) (by assumption) rfl (by intro w h; go_simp <;> with_reducible rfl) ?_
     try simp only [Act.put, sA, sB, sC]
     refine tq 1 rfl (by kernel_rfl) (fun _ _ _ h => h) (by assumption) rfl (by intro w h; go_simp <;> with_reducible rfl) ?_
     try simp only [Act.put, sA, sB, sC]
     refine tq 2 rfl (by kernel_rfl) (fun _ _ _ h => h) (by assumption) rfl (by intro w h; go_simp <;> with_reducible rfl) ?_
     try simp only [Act.put, sA, sB, sC]
     refine tq 3 rfl (by kernel_rfl) (fun _ _ _ h => h) (by assumption) rfl (by intro w h; go_simp <;> with_reducible rfl) ?_
     try simp only [Act.put, sA, sB, sC]
     refine tq 4 rfl (by kernel_rfl) (fun _ _ _ h => h) (by assumption) rfl (by intro w h; go_simp <;> with_reducible rfl) ?_
     try simp only [Act.put, sA, sB, sC]
     refine tq 5 rfl (by kernel_rfl) (fun _ _ _ h => h) (by assumption) rfl (by intro w h; go_simp <;> with_reducible rfl) ?_
     try simp only [Act.put, sA, sB, sC]
     refine tq 6 rfl (by kernel_rfl) (fun _ _ _ h => h) (by assumption) rfl (by intro w h; go_simp <;> with_reducible rfl) ?_
     try simp only [Act.put, sA, sB, sC]
     refine tq 7 rfl (by kernel_rfl) (fun _ _ _ h => h) (by assumption) rfl (by intro w h; go_simp <;> with_reducible rfl) ?_
     try simp only [Act.put, sA, sB, sC]
     refine rq 8 (by kernel_rfl) rfl (fun K hK => ?_)
     go_simp
     refine hK.out _ _ ⟨cell_lowB (al1 wd _) (cell_lt hS.1) hS.1, cell_lowB (al1 wd _) (cell_lt hS.2.1) hS.2.1, cell_lowB (al1 wd _) (cell_lt hS.2.2) hS.2.2⟩ (fun hH => ?_)
     clear hK K
     try simp only [Act.put, sA, sB, sC]
     refine rq 9 (by kernel_rfl) rfl (fun K hK => ?_)
     have HR1 : Hid _ := room_of (n := cs.length) (bytes := 8) (by omega) (by decide)
     refine step_appE (wd.alloc (.cells #[.int .i64 x5] 3)) rfl _ _ 50 rfl (w.heap.size + 3) 3 j0 _ 1 8 Try.underlying50 hj0' hy0 hy1 hy2 rfl (by decide) (.slice a2 cs.length q2) cs.length (flatI cs) rfl (OMd.out.alloc _).rowC (.slice (some ⟨wd.heap.size, 0, none⟩) 1 1) 1 (flatI [x5]) rfl (Row.laid wd (flatI [x5]) 3 _ rfl) rfl (flatI_one _) HR1.out.1 HR1.out.2 (by simp; have := ZWd.out; omega) ?_
     intro v5 w5 A5
     have OM5 : OutM d (w.heap.size + 3) (fun g => (F g ∧ g < w.heap.size) ∨ w.heap.size + 3 ≤ g) w5 (.slice a1 (fT (j + 1)).length q1) v5 (fT (j + 1)) (cs ++ [x5]) := (OMd.out.alloc _).addC (ds := [x5]) A5
     obtain ⟨_, _, a3, q3, _, hv5⟩ := OM5.shape
     subst hv5
     have XT5 : Hid (TreesF d w5 (offB (fun g => (F g ∧ g < w.heap.size) ∨ w.heap.size + 3 ≤ g) (.slice a1 (fT (j + 1)).length q1) (.slice a3 (cs ++ [x5]).length q3)) (.slice ax (fx (j + 1)).1.length qx) (fx (j + 1)).1) := (XTd.out.below (al1 wd _)).off A5.2.1 (off_app_c A5).2 (off_app_c A5).1
     have XC5 := hid ((XCd.out.below (al1 wd _)).off (flatI_ne _).2 A5.2.1 (off_app_c A5).2 (off_app_c A5).1)
     have CH : Chg (wrB (.slice a2 cs.length q2)) wd w5 := ((Chg.refl _ _).alloc _).trans A5.2.1 (fun _ _ h => h)
     have NW : ∀ g, wrB (.slice a2 cs.length q2) g → w.heap.size + 3 ≤ g := fun g hg => (OMd.out.rowC.lt g hg).1
     have XL5 := hid (XLd.out.chg CH (OMd.out.rowC.ne_box (by decide) XLd.out))
     have BX5 := hid (BXd.out.chg CH (fun h => by have := NW _ h; omega))
     have BR5 := hid (BRd.out.chg CH (fun h => by have := NW _ h; omega))
     have BM5 := hid (BMd.out.chg CH (fun h => by have := NW _ h; omega))
     have BW5 := hid (BWd.out.trans (CH.below (fun g _ hg => by have := NW g hg; omega) (by have := ZWd.out; omega)))
     have ZW5 := hid (Nat.le_trans ZWd.out CH.size)
     have LN : Hid (L ≠ w.heap.size + 1 + 1) := fun h => by omega
     have OM5' : Hid _ := OM5
     have kk := CKj.out w5 BW5.out
     obtain ⟨m0, m1⟩ := BX5.out.two
     obtain ⟨f0, f1⟩ := BX5.out.free
     have m2 := BM5.out.two.2
     clear A5 OM5 CH NW hS hH
     refine hK.out _ _ ⟨m1, m2, kk⟩ (fun hH => ?_)
     clear hK K
     try simp only [Act.put, sA, sB, sC]
     refine tq 10 rfl (by kernel_rfl) (fun _ _ _ h => h) (by assumption) rfl (by intro w h; go_simp <;> with_reducible rfl) ?_
     try simp only [Act.put, sA, sB, sC]
     refine wpAnyH_done (by kernel_rfl) ?_ _
     show Oper.wp _ _ _ _ _ _
     go_simp
     have FIN : Hid (∀ v, BoxM (w5.setCell ⟨w.heap.size + 1 + 1, 1, none⟩ v) L #[.slice ax (fx (j + 1)).1.length qx, .slice ay (fx (j + 1)).2.length qy] ∧ TreesF d (w5.setCell ⟨w.heap.size + 1 + 1, 1, none⟩ v) (offB (fun g => (F g ∧ g < w.heap.size) ∨ w.heap.size + 3 ≤ g) (.slice a1 (fT (j + 1)).length q1) (.slice a3 (cs ++ [x5]).length q3)) (.slice ax (fx (j + 1)).1.length qx) (fx (j + 1)).1 ∧ RowF (w5.setCell ⟨w.heap.size + 1 + 1, 1, none⟩ v) (offB (fun g => (F g ∧ g < w.heap.size) ∨ w.heap.size + 3 ≤ g) (.slice a1 (fT (j + 1)).length q1) (.slice a3 (cs ++ [x5]).length q3)) (.slice ay (fx (j + 1)).2.length qy) (fx (j + 1)).2.length (flatI (fx (j + 1)).2) ∧ OutM d (w.heap.size + 3) (fun g => (F g ∧ g < w.heap.size) ∨ w.heap.size + 3 ≤ g) (w5.setCell ⟨w.heap.size + 1 + 1, 1, none⟩ v) (.slice a1 (fT (j + 1)).length q1) (.slice a3 (cs ++ [x5]).length q3) (fT (j + 1)) (cs ++ [x5]) ∧ BoxM (w5.setCell ⟨w.heap.size + 1 + 1, 1, none⟩ v) (w.heap.size + 1) #[.slice none 0 0, .slice none 0 0] ∧ BoxM (w5.setCell ⟨w.heap.size + 1 + 1, 1, none⟩ v) w.heap.size #[.slice (some ⟨b1, off1, none⟩) n1 c1, .slice (some ⟨b2, off2, none⟩) n2 c2] ∧ Below w.heap.size w (w5.setCell ⟨w.heap.size + 1 + 1, 1, none⟩ v) ∧ w.heap.size + 3 ≤ (w5.setCell ⟨w.heap.size + 1 + 1, 1, none⟩ v).heap.size) := fun v =>
      ⟨XL5.out.chg (chg_set1 w5 (w.heap.size + 1 + 1) 1 v) LN.out, XT5.out.chg (chg_set1 w5 (w.heap.size + 1 + 1) 1 v) (fun g hg k => (PG.out g (.inr k)).1 hg.1), XC5.out.chg (chg_set1 w5 (w.heap.size + 1 + 1) 1 v) (fun g hg k => (PG.out g (.inr k)).1 hg.1), OutM.chg OM5'.out (chg_set1 w5 (w.heap.size + 1 + 1) 1 v) (fun g hg => PG.out g (.inr hg)), BR5.out.chg (chg_set1 w5 (w.heap.size + 1 + 1) 1 v) (by omega), BM5.out.chg (chg_set1 w5 (w.heap.size + 1 + 1) 1 v) (by omega), BW5.out.setCell (p := ⟨w.heap.size + 1 + 1, 1, none⟩) (by show w.heap.size ≤ w.heap.size + 1 + 1; omega) _, by simpa using ZW5.out⟩
     clear m0 m1 m2 f0 f1 hH kk
     go_wp2_with fail
     go_meet
     case rel => exact ⟨rfl, cs ++ [x5], a3, q3, E, (FIN.out _).1, (FIN.out _).2.1, (FIN.out _).2.2.1, (FIN.out _).2.2.2.1, (by have := BX5.out.set1 (.slice a3 (cs.length + 1) q3); rw [show (cs ++ [x5]).length = cs.length + 1 by simp]; exact this), (FIN.out _).2.2.2.2.1, (FIN.out _).2.2.2.2.2.1, (FIN.out _).2.2.2.2.2.2.1, (FIN.out _).2.2.2.2.2.2.2⟩
   case rest =>
   obtain ⟨rfl, cs', a3, q3, EC, XL2, XT2, XC2, OM2, BX2, BR2, BM2, BW2, ZW2⟩ := hcut
   clear XL XT XC OM1 BX1 BR1 BM1 BW1 ZW1 CK SC0 SC1
   have hcl : cs'.length ≤ 1000000 := by
    have := hs2.2
    rw [EC.out, List.length_append] at this
    omega
   obtain ⟨ys, ey, ry⟩ := XT2.out.els
   obtain ⟨xs, y1, y2, y3, y4, y5⟩ := OM2.out
   have gy := hid (flatT_oneF ey.2)
   have RY := hid (ry.row)
   have EY := hid (ey)
   have HX : Hid (xs.length = (fT j).length ∧ OwnE wc (w.heap.size + 3) 54 5 (.slice a1 (fT j).length q1) xs.length (flatT xs) ∧ ∀ i, i < xs.length → TreeF d wc (offB (fun g => (F g ∧ g < w.heap.size) ∨ w.heap.size + 3 ≤ g) (.slice a1 (fT j).length q1) (.slice a3 cs'.length q3)) (tvAt xs i) ((fT j).getD i noTr)) := ⟨y1, y2, y5⟩
   have FLY : Hid ((flatT ys).length = (fx j).1.length * 5) := by show _ = _; rw [flatT_length, ey.1]
   have HR1 : Hid (xs.length + (fx j).1.length ≤ maxLen ∧ (xs.length + (fx j).1.length) * 104 ≤ 140737488355328) := ⟨by unfold maxLen; omega, by omega⟩
   have HR2 : Hid (cs'.length + (fx j).2.length ≤ maxLen ∧ (cs'.length + (fx j).2.length) * 8 ≤ 140737488355328) := ⟨by unfold maxLen; omega, by omega⟩
   have FLC : Hid ((flatI (fx j).2).length = (fx j).2.length * 1) := by show _ = _; rw [flatI_length]; omega
   have NW1 := hid (fun g (hg : wrB (.slice a1 (fT j).length q1) g) => (y2.lt g hg).1)
   obtain ⟨l0, l1⟩ := BX2.out.two
   obtain ⟨e0, e1⟩ := XL2.out.two
   clear ey ry y1 y2 y3 y4 y5
   generalize hL1 : (fx j).1.length = lx at *
   generalize hL2 : (fx j).2.length = ly at *
   go_wp2_with (at_builtin; refine list_appE wc rfl _ _ 51 rfl (w.heap.size + 3) 54 i0 _ 5 104 Try.underlying51 hi0 hz0 hz1 hz2 rfl (by decide) (.slice a1 (fT j).length q1) xs.length (flatT xs) rfl HX.out.2.1 (.slice ax lx qx) lx (flatT ys) rfl RY.out FLY.out gy.out HR1.out.1 HR1.out.2 ZW2.out ?_)
   intro v5 w5 A5
   have OM5 : OutM d (w.heap.size + 3) (fun g => (F g ∧ g < w.heap.size) ∨ w.heap.size + 3 ≤ g) w5 v5 (.slice a3 cs'.length q3) (fT j ++ (fx j).1) cs' := OutM.addT (us := (fx j).1) OM2.out (m := lx) (by rw [EY.out.1, hL1]) EY.out.1 EY.out.2 HX.out.1 HX.out.2.2 A5
   obtain ⟨a5, q5, _, _, hv5, _⟩ := OM5.shape
   subst hv5
   have XC5 := hid (XC2.out.off (by rw [← hL2]; exact (flatI_ne _).2) A5.2.1 (off_app_t A5).2 (off_app_t A5).1)
   have XL5 := hid (XL2.out.chg A5.2.1 (OwnE.ne_box HX.out.2.1 (by decide) XL2.out))
   have BX5 := hid (BX2.out.chg A5.2.1 (fun h => by have := NW1.out _ h; omega))
   have BR5 := hid (BR2.out.chg A5.2.1 (fun h => by have := NW1.out _ h; omega))
   have BM5 : Hid (BoxM w5 w.heap.size #[.slice (some ⟨b1, off1, none⟩) n1 c1, .slice bv n2 c2]) := BM2.out.chg A5.2.1 (fun h => by have := NW1.out _ h; omega)
   have BW5 : Hid (Below w.heap.size w w5) := BW2.out.trans (A5.2.1.below (fun g _ hg => by have := NW1.out g hg; omega) (by have := ZW2.out; omega))
   have ZW5 : Hid (w.heap.size + 3 ≤ w5.heap.size) := Nat.le_trans ZW2.out A5.2.1.size
   have OM5' : Hid _ := OM5
   obtain ⟨m0, m1⟩ := BX5.out.two
   obtain ⟨f0, f1⟩ := BX5.out.free
   obtain ⟨k0, k1⟩ := XL5.out.two
   have FIN : Hid (∀ v, BoxM (w5.setCell ⟨w.heap.size + 1 + 1, 0, none⟩ v) L #[.slice ax lx qx, .slice ay ly qy] ∧ RowF (w5.setCell ⟨w.heap.size + 1 + 1, 0, none⟩ v) (offB (fun g => (F g ∧ g < w.heap.size) ∨ w.heap.size + 3 ≤ g) (.slice a5 (fT j ++ (fx j).1).length q5) (.slice a3 cs'.length q3)) (.slice ay ly qy) ly (flatI (fx j).2) ∧ OutM d (w.heap.size + 3) (fun g => (F g ∧ g < w.heap.size) ∨ w.heap.size + 3 ≤ g) (w5.setCell ⟨w.heap.size + 1 + 1, 0, none⟩ v) (.slice a5 (fT j ++ (fx j).1).length q5) (.slice a3 cs'.length q3) (fT j ++ (fx j).1) cs' ∧ BoxM (w5.setCell ⟨w.heap.size + 1 + 1, 0, none⟩ v) (w.heap.size + 1) #[.slice none 0 0, .slice none 0 0] ∧ BoxM (w5.setCell ⟨w.heap.size + 1 + 1, 0, none⟩ v) w.heap.size #[.slice (some ⟨b1, off1, none⟩) n1 c1, .slice bv n2 c2] ∧ Below w.heap.size w (w5.setCell ⟨w.heap.size + 1 + 1, 0, none⟩ v) ∧ w.heap.size + 3 ≤ (w5.setCell ⟨w.heap.size + 1 + 1, 0, none⟩ v).heap.size) := fun v =>
    ⟨XL5.out.chg (chg_set1 w5 (w.heap.size + 1 + 1) 0 v) (by omega), XC5.out.chg (chg_set1 w5 (w.heap.size + 1 + 1) 0 v) (fun g hg k => (PG.out g (.inr k)).1 hg.1), OutM.chg OM5'.out (chg_set1 w5 (w.heap.size + 1 + 1) 0 v) (fun g hg => PG.out g (.inr hg)), BR5.out.chg (chg_set1 w5 (w.heap.size + 1 + 1) 0 v) (by omega), BM5.out.chg (chg_set1 w5 (w.heap.size + 1 + 1) 0 v) (by omega), BW5.out.setCell (p := ⟨w.heap.size + 1 + 1, 0, none⟩) (by show w.heap.size ≤ w.heap.size + 1 + 1; omega) _, by simpa using ZW5.out⟩
   have hlen : (fT j ++ (fx j).1).length = (fT j).length + lx := by rw [List.length_append, hL1]
   rw [hlen] at FIN
   have BX5' : Hid (BoxM (w5.setCell ⟨w.heap.size + 1 + 1, 0, none⟩ (.slice a5 ((fT j).length + lx) q5)) (w.heap.size + 1 + 1) #[.slice a5 ((fT j).length + lx) q5, .slice a3 cs'.length q3]) := BX5.out.set0 _
   have NC5 : Hid (∀ g, wrB (.slice a3 cs'.length q3) g → w.heap.size + 3 ≤ g) := fun g hg => ((FIN.out (.slice a5 ((fT j).length + lx) q5)).2.2.1.rowC.lt g hg).1
   have OM6' : Hid (OutM d (w.heap.size + 3) (fun g => (F g ∧ g < w.heap.size) ∨ w.heap.size + 3 ≤ g) (w5.setCell ⟨w.heap.size + 1 + 1, 0, none⟩ (.slice a5 ((fT j).length + lx) q5)) (.slice a5 ((fT j).length + lx) q5) (.slice a3 cs'.length q3) (fT j ++ (fx j).1) cs') := (FIN.out (.slice a5 ((fT j).length + lx) q5)).2.2.1
   have XC6 : Hid (Row (w5.setCell ⟨w.heap.size + 1 + 1, 0, none⟩ (.slice a5 ((fT j).length + lx) q5)) (.slice ay ly qy) ly (flatI (fx j).2)) := (FIN.out (.slice a5 ((fT j).length + lx) q5)).2.1.row
   have BR6 : Hid (BoxM (w5.setCell ⟨w.heap.size + 1 + 1, 0, none⟩ (.slice a5 ((fT j).length + lx) q5)) (w.heap.size + 1) #[.slice none 0 0, .slice none 0 0]) := (FIN.out (.slice a5 ((fT j).length + lx) q5)).2.2.2.1
   have BM6 : Hid (BoxM (w5.setCell ⟨w.heap.size + 1 + 1, 0, none⟩ (.slice a5 ((fT j).length + lx) q5)) w.heap.size #[.slice (some ⟨b1, off1, none⟩) n1 c1, .slice bv n2 c2]) := (FIN.out (.slice a5 ((fT j).length + lx) q5)).2.2.2.2.1
   have BW6 : Hid (Below w.heap.size w (w5.setCell ⟨w.heap.size + 1 + 1, 0, none⟩ (.slice a5 ((fT j).length + lx) q5))) := (FIN.out (.slice a5 ((fT j).length + lx) q5)).2.2.2.2.2.1
   have ZW6 : Hid (w.heap.size + 3 ≤ (w5.setCell ⟨w.heap.size + 1 + 1, 0, none⟩ (.slice a5 ((fT j).length + lx) q5)).heap.size) := (FIN.out (.slice a5 ((fT j).length + lx) q5)).2.2.2.2.2.2
   clear FIN A5 OM5 XT2 XC2 XL2 BX2 BR2 BM2 BW2 OM2 ZW2 l0 l1 e0 e1 HX EY RY gy FLY HR1 NW1 OM5' XC5 XL5 BR5 BM5 BW5 ZW5
   go_wp2_with (at_builtin; refine list_appE (w5.setCell ⟨w.heap.size + 1 + 1, 0, none⟩ (.slice a5 ((fT j).length + lx) q5)) rfl _ _ 50 rfl (w.heap.size + 3) 3 j0 _ 1 8 Try.underlying50 hj0' hy0 hy1 hy2 rfl (by decide) (.slice a3 cs'.length q3) cs'.length (flatI cs') rfl OM6'.out.rowC (.slice ay ly qy) ly (flatI (fx j).2) rfl XC6.out FLC.out (flatI_one _) HR2.out.1 HR2.out.2 ZW6.out ?_)
   intro v6 w6 A6
   clear m0 m1 f0 f1 k0 k1
   generalize (w5.setCell ⟨w.heap.size + 1 + 1, 0, none⟩ (.slice a5 ((fT j).length + lx) q5)) = w5' at *
   have A6' := A6
   rw [← hL2] at A6'
   have OM7 : OutM d (w.heap.size + 3) (fun g => (F g ∧ g < w.heap.size) ∨ w.heap.size + 3 ≤ g) w6 (.slice a5 ((fT j).length + lx) q5) v6 (fT j ++ (fx j).1) (cs' ++ (fx j).2) := OutM.addC (ds := (fx j).2) OM6'.out A6'
   obtain ⟨_, _, a6, q6, _, hv6⟩ := OM7.shape
   rw [← EC.out] at OM7 hv6
   subst hv6
   have BX7 : Hid (BoxM w6 (w.heap.size + 1 + 1) #[.slice a5 ((fT j).length + lx) q5, .slice a3 cs'.length q3]) := BX5'.out.chg A6.2.1 (fun h => by have := NC5.out _ h; omega)
   have BR7 : Hid (BoxM w6 (w.heap.size + 1) #[.slice none 0 0, .slice none 0 0]) := BR6.out.chg A6.2.1 (fun h => by have := NC5.out _ h; omega)
   have BM7 : Hid (BoxM w6 w.heap.size #[.slice (some ⟨b1, off1, none⟩) n1 c1, .slice bv n2 c2]) := BM6.out.chg A6.2.1 (fun h => by have := NC5.out _ h; omega)
   have BW7 : Hid (Below w.heap.size w w6) := BW6.out.trans (A6.2.1.below (fun g _ hg => by have := NC5.out g hg; omega) (by have := ZW6.out; omega))
   have ZW7 : Hid (w.heap.size + 3 ≤ w6.heap.size) := Nat.le_trans ZW6.out A6.2.1.size
   have OM7' : Hid _ := OM7
   obtain ⟨m0, m1⟩ := BX7.out.two
   obtain ⟨f0, f1⟩ := BX7.out.free
   have FIN : Hid (∀ v, OutM d (w.heap.size + 3) (fun g => (F g ∧ g < w.heap.size) ∨ w.heap.size + 3 ≤ g) (w6.setCell ⟨w.heap.size + 1 + 1, 1, none⟩ v) (.slice a5 ((fT j).length + lx) q5) (.slice a6 (fC (j + 1)).length q6) (fT j ++ (fx j).1) (fC (j + 1)) ∧ BoxM (w6.setCell ⟨w.heap.size + 1 + 1, 1, none⟩ v) (w.heap.size + 1) #[.slice none 0 0, .slice none 0 0] ∧ BoxM (w6.setCell ⟨w.heap.size + 1 + 1, 1, none⟩ v) w.heap.size #[.slice (some ⟨b1, off1, none⟩) n1 c1, .slice bv n2 c2] ∧ Below w.heap.size w (w6.setCell ⟨w.heap.size + 1 + 1, 1, none⟩ v) ∧ w.heap.size + 3 ≤ (w6.setCell ⟨w.heap.size + 1 + 1, 1, none⟩ v).heap.size) := fun v =>
    ⟨OutM.chg OM7'.out (chg_set1 w6 (w.heap.size + 1 + 1) 1 v) (fun g hg => PG.out g (.inr hg)), BR7.out.chg (chg_set1 w6 (w.heap.size + 1 + 1) 1 v) (by omega), BM7.out.chg (chg_set1 w6 (w.heap.size + 1 + 1) 1 v) (by omega), BW7.out.setCell (p := ⟨w.heap.size + 1 + 1, 1, none⟩) (by show w.heap.size ≤ w.heap.size + 1 + 1; omega) _, by simpa using ZW7.out⟩
   clear A6 A6' OM7 OM7' BR7 BM7 BW7 ZW7 BX5' NC5 OM6' XC6 BR6 BM6 BW6 ZW6
   have hST : fT (j + 1) = fT j ++ (fx j).1 := ST1.out
   go_wp2
   go_roundw
   case rel => exact ⟨j + 1, a5, a6, q5, q6, by go_num, by omega, (by rw [hST, hlen]; exact (FIN.out _).1), (by rw [hST, hlen]; exact BX7.out.set1 _), (FIN.out _).2.1, (FIN.out _).2.2.1, (FIN.out _).2.2.2.1, (FIN.out _).2.2.2.2⟩
   case measure => simp [intOf]; omega
  ·have hjj : j = n1 := by omega
   subst hjj
   obtain ⟨l0, l1⟩ := BX.out.two
   obtain ⟨x0, x1⟩ := BM.out.two
   obtain ⟨r0, r1⟩ := BR.out.two
   obtain ⟨r2, r3⟩ := BR.out.free
   have FIN : Hid (∀ v v', OutM d (w.heap.size + 3) (fun g => (F g ∧ g < w.heap.size) ∨ w.heap.size + 3 ≤ g) (set2 wr (w.heap.size + 1) v v') (.slice a1 (fT j).length q1) (.slice a2 (fC j).length q2) (fT j) (fC j) ∧ Below w.heap.size w (set2 wr (w.heap.size + 1) v v')) := fun v v' =>
    ⟨OM.out.chg (chg_set2 wr (w.heap.size + 1) v v') (fun g hg => PG.out g (.inl hg)), (BW.out.setCell (p := ⟨w.heap.size + 1, 0, none⟩) (Nat.le_succ _) _).setCell (p := ⟨w.heap.size + 1, 1, none⟩) (Nat.le_succ _) _⟩
   clear OM BX BR BM BW ZW HS HG FX FY KL SL ST HE DC CK SC0 SC1
   go_wp2
   refine bodyPost_ret (v := .agg #[.slice a1 (fT j).length q1, .slice a2 (fC j).length q2]) (by simp [results, Try.results64, go_sem, r0, r1]) rfl ⟨_, _, rfl, ?_, ?_, (FIN.out _ _).2⟩
   ·exact ((FIN.out _ _).1.trees (fun g hg => .inr hg)).1.mono (fun g hg => hg.elim (fun h => .inl h.1) (fun h => .inr (by omega)))
   ·exact ((FIN.out _ _).1.trees (fun g hg => .inr hg)).2.mono (fun g hg => hg.elim (fun h => .inl h.1) (fun h => .inr (by omega)))
end
end Go.Proofs.Ytekcnibohikmdaa
