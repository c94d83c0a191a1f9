/-
  Marks of whole trees: markTree over a tree in memory of its own.
  Contracts of slices.Grow and slices.Concat at messages, and of the program's msgsOfKid.
  The library's Grow and Concat, over trees and over numbers: any number of parts.
  The program's slices.Clone, of pairs, cuts, messages and kids.
  The copier's map: from where a list of kids stands to its copy.
-/
import Derived.Test.YtkcaelfkcepdkaaGreatOfSend17
import Derived.Deep.DeepCutAuto
import Derived.Deep.CutBlock
import Derived.Test.YtkcaelfkcepdkaaGreatOfSend8
import Derived.Lib.Walk
import Derived.Lib.SliceRun
import Derived.Lib.AppendZerosOnto
import Derived.Test.YtkcaelfkcepdkaaGreatOfSend15
import Derived.Test.YtkcaelfkcepdkaaGreatOfSend9
import Derived.Test.YtkcaelfkcepdkaaGreatOfSend14
import Derived.Lib.BufferMore
import Derived.Laws.StructEq
import Derived.LaidEql
import Derived.MapKept
namespace Go.Proofs.YtkcaelfkcepdkaaGreat
set_option maxRecDepth 100000
set_option maxHeartbeats 8000000
section
open Go.RowKit

theorem flatT_flag (l : List TV) (b : Bool) : ∀ i, i < l.length → (flatT l).set (i * 5) (.bool b) = flatT (l.set i ⟨b, (tvAt l i).p, (tvAt l i).c, (tvAt l i).k, (tvAt l i).b⟩) := by
 induction l with
 | nil => intro i h; simp at h
 | cons p l ih =>
  intro i h
  cases i with
  | zero => simp [flatT_cons, tvAt]
  | succ i =>
   have := ih i (by simpa using h)
   rw [flatT_cons, List.set_cons_succ, flatT_cons, show (i + 1) * 5 = i * 5 + 1 + 1 + 1 + 1 + 1 by omega]
   simp only [List.set_cons_succ, this]
   simp [tvAt]
theorem wrB_ty {w : World} {b e s n : Nat} {v : Value} {xs : List Value} (h : OwnE w b e s v n xs) {g : Nat} (hg : wrB v g) : ∃ cur, w.heap[g]? = some (.cells cur e (0, 0)) := by
 obtain ⟨k, cap, rfl, hc⟩ := hg
 rcases h with h | ⟨_, _, g', h'⟩
 ·exact (owns_lt h (g := g) rfl).2
 ·simp at h'; omega
theorem wrB_apart {w : World} {b b' e e' s s' n n' : Nat} {v v' : Value} {xs xs' : List Value} (h : OwnE w b e s v n xs) (h' : OwnE w b' e' s' v' n' xs') (ht : e ≠ e') {g : Nat} (hg : wrB v g) : ¬ wrB v' g := fun hg' => by
 obtain ⟨c, hc⟩ := wrB_ty h hg
 obtain ⟨c', hc'⟩ := wrB_ty h' hg'
 rw [hc] at hc'
 simp at hc'
 exact ht hc'.2

def MarkDS (n : Nat) : Prop := ∀ (v : Value) (xs : List TV) (ts : List Tr) (K : Nat → Nat → Prop) (k : Int) (w : World), xs.length = ts.length → OwnE w 0 69 5 v xs.length (flatT xs) →
 (∀ i, i < xs.length → TreeD n w (K i) (tvAt xs i) (ts.getD i noTr)) → (∀ i g, i < xs.length → K i g → ¬ wrB v g) → (∀ i j g, i < j → j < xs.length → K i g → ¬ K j g) → 0 ≤ k → k + (mkTs n ts : Nat) ≤ 67108864 →
 Calls Tryz.prog 48 #[v, .int .i64 k] w fun e w' => e = .returned (.int .i64 (k + (mkTs n ts : Nat))) ∧
  (∃ ys : List TV, ys.length = xs.length ∧ OwnE w' 0 69 5 v ys.length (flatT ys) ∧ ∀ i, i < xs.length → TreeD n w' (K i) (tvAt ys i) ((markTs n k ts).getD i noTr)) ∧ Chg (fun g => wrB v g ∨ ∃ i, i < xs.length ∧ K i g) w w'

structure HalfD (n : Nat) (v : Value) (m : Nat) (ts : List Tr) (K : Nat → Nat → Prop) (k : Int) (w wr : World) (j : Nat) (ys : List TV) : Prop where
 len : ys.length = m
 own : OwnE wr 0 69 5 v m (flatT ys)
 ahead : ∀ i, i < j → i < m → TreeD n wr (K i) (tvAt ys i) ((markTs n k ts).getD i noTr)
 rest : ∀ i, j ≤ i → i < m → TreeD n wr (K i) (tvAt ys i) (ts.getD i noTr)
 chg : Chg (fun g => wrB v g ∨ ∃ i, i < m ∧ K i g) w wr

theorem HalfD.step {n m j g cap : Nat} {ts : List Tr} {K : Nat → Nat → Prop} {k : Int} {w wr w5 : World} {ys : List TV} {flag : Bool} (h : HalfD n (.slice (some ⟨g, 0, none⟩) m cap) m ts K k w wr j ys) (hj : j < m)
  (hv : ∀ i g', i < m → K i g' → ¬ wrB (.slice (some ⟨g, 0, none⟩) m cap) g') (hd : ∀ i j g', i < j → j < m → K i g' → ¬ K j g') (hcap : 0 < cap)
  (hc : Chg (K j) (wr.setCell ⟨g, j * 5, none⟩ (.bool flag)) w5)
  (ht : TreeD n w5 (K j) ⟨flag, (tvAt ys j).p, (tvAt ys j).c, (tvAt ys j).k, (tvAt ys j).b⟩ ((markTs n k ts).getD j noTr)) :
  HalfD n (.slice (some ⟨g, 0, none⟩) m cap) m ts K k w w5 (j + 1) (ys.set j ⟨flag, (tvAt ys j).p, (tvAt ys j).c, (tvAt ys j).k, (tvAt ys j).b⟩) := by
 have hg : wrB (.slice (some ⟨g, 0, none⟩) m cap) g := ⟨_, _, rfl, hcap⟩
 have c1 : Chg (fun g' => g' = g) wr (wr.setCell ⟨g, j * 5, none⟩ (.bool flag)) := (Chg.refl (fun g' => g' = g) wr).setAt g (j * 5) rfl _
 have hl := h.len
 have ow : wr.ownsRow 0 69 5 (.slice (some ⟨g, 0, none⟩) m cap) m (flatT ys) := by
  rcases h.own with h | ⟨h, _⟩
  ·exact h
  ·omega
 have o1 := (ow.stored (j * 5) (.bool flag)).1
 rw [flatT_flag ys flag j (by omega)] at o1
 have o5 := owns_chg o1 hc (fun g' hg' e => hv j g' hj e ⟨_, _, by simp [Value.ownBlock] at hg'; subst hg'; rfl, hcap⟩)
 have other : ∀ (i : Nat) (T : Tr) (x : TV), i < m → i ≠ j → TreeD n wr (K i) x T → TreeD n w5 (K i) x T := fun i T x hi hij t =>
  (t.chg c1 (fun g' hg' e => hv i g' hi hg' (by subst e; exact hg))).chg hc (fun g' hg' e => by
   rcases Nat.lt_or_gt_of_ne hij with h | h
   ·exact hd i j g' h hj hg' e
   ·exact hd j i g' h hi e hg')
 have tv : ∀ i, i ≠ j → tvAt (ys.set j ⟨flag, (tvAt ys j).p, (tvAt ys j).c, (tvAt ys j).k, (tvAt ys j).b⟩) i = tvAt ys i := fun i hi => by
  simp [tvAt, List.getD, List.getElem?_set_ne (Ne.symm hi)]
 have tj : tvAt (ys.set j ⟨flag, (tvAt ys j).p, (tvAt ys j).c, (tvAt ys j).k, (tvAt ys j).b⟩) j = ⟨flag, (tvAt ys j).p, (tvAt ys j).c, (tvAt ys j).k, (tvAt ys j).b⟩ := by
  simp [tvAt, List.getD, hl, hj]
 refine ⟨by simp [hl], .inl o5, fun i hi him => ?_, fun i hi him => ?_, (h.chg.trans c1 (fun g' _ e => .inl (by subst e; exact hg))).trans hc (fun g' _ e => .inr ⟨j, hj, e⟩)⟩
 ·by_cases e : i = j
  ·subst e; rw [tj]; exact ht
  ·rw [tv i e]; exact other i _ _ him e (h.ahead i (by omega) him)
 ·rw [tv i (by omega)]; exact other i _ _ him (by omega) (h.rest i (by omega) him)

theorem markDS_of (n : Nat) (H : ∀ n', n = n' + 1 → MarkDS n') : MarkDS n := by
 intro v xs ts K k w hl ho hkid hv hd hk0 hk1
 obtain ⟨a, cap, hvv⟩ := ho.slice
 subst hvv
 have hlen : xs.length ≤ 67108864 := by
  have : ts.length ≤ mkTs n ts := by unfold mkTs; omega
  omega
 have MS : Hid (∀ i, i < xs.length → mkTo n ts (i + 1) = mkTo n ts i + (1 + mkT n (ts.getD i noTr))) := fun i hi => mkTo_succ n ts i (by omega)
 have ML : Hid (∀ i, i ≤ xs.length → mkTo n ts i ≤ mkTs n ts) := fun i hi => mkTo_le n ts i (by omega)
 have MF : Hid (mkTo n ts xs.length = mkTs n ts) := by
  show _ = _
  rw [hl, mkTo_full]
 have M0 : Hid (mkTo n ts 0 = 0) := by
  show _ = _
  simp [mkTo]
 have MA : Hid (∀ i, i < xs.length → (markTs n k ts).getD i noTr = withLeaf ((k + (mkTo n ts i : Nat)) % 3 == 0) (markTr n (k + (mkTo n ts i : Nat) + 1) (ts.getD i noTr))) := fun i hi => markTs_at n k ts i (by omega)
 have H0 : Hid (HalfD n (.slice a xs.length cap) xs.length ts K k w w 0 xs) := ⟨rfl, ho, fun i hi => absurd hi (Nat.not_lt_zero _), fun i _ hi => hkid i hi, Chg.refl _ _⟩
 have HV : Hid _ := And.intro hv hd
 clear ho hkid hv hd hl
 generalize mkTs n ts = TOT at *
 generalize hfo : mkTo n ts = fo at *
 generalize xs.length = m at *
 have hm63 : (m : Int) ≤ 67108864 := by omega
 clear hfo
 go_enter Tryz.func48, Tryz.ntmps48
 go_wp2
 go_loopw [1, 5] (fun kk i wr => ∃ (j : Nat) (ys : List TV), j ≤ m ∧ i = .int .i64 j ∧ kk = .int .i64 (k + (fo j : Nat)) ∧ Hid (HalfD n (.slice a m cap) m ts K k w wr j ys)) (fun _ i _ => m - (intOf i).toNat)
 case atStart => exact ⟨0, xs, Nat.zero_le _, rfl, by rw [M0.out]; simp, H0⟩
 case round =>
  obtain ⟨j, ys, hj, rfl, rfl, HF⟩ := hrel
  by_cases hlt : j < m
  ·have ow : wr.ownsRow 0 69 5 (.slice a m cap) m (flatT ys) := by
    rcases HF.out.own with h | ⟨h, _⟩
    ·exact h
    ·omega
   obtain ⟨g, hag, hcap⟩ : ∃ g, a = some ⟨g, 0, none⟩ ∧ 0 < cap := by
    obtain ⟨_, ⟨e, e2⟩ | ⟨g, cap', cur, e, _, _, hle, _⟩⟩ := id ow
    ·omega
    ·simp at e
     exact ⟨g, e.1, by omega⟩
   subst hag
   have hyl := HF.out.len
   have hms := MS.out j hlt
   have hml := ML.out (j + 1) (by omega)
   have HMA := MA.out j hlt
   have WT := HF.out.rest j (Nat.le_refl _) hlt
   cases n with
   | zero => exact WT.elim
   | succ n =>
   have hat := flatT_at ys j (by omega)
   have c0 := (ow.cellAt (j * 5) (by omega)).trans hat.1
   have f0 := ow.frozenAt (j * 5)
   have o1 := (ow.stored (j * 5) (.bool ((k + (fo j : Int)) % 3 == 0))).1
   rw [flatT_flag ys _ j (by omega)] at o1
   have hgw : wrB (.slice (some ⟨g, 0, none⟩) m cap) g := ⟨_, _, rfl, hcap⟩
   have LK : Hid (∀ u : World, Chg (K j) (wr.setCell ⟨g, j * 5, none⟩ (.bool ((k + (fo j : Int)) % 3 == 0))) u → u.cell? ⟨g, j * 5 + 1, none⟩ = some (tvAt ys j).p ∧ u.cell? ⟨g, j * 5 + 2, none⟩ = some (tvAt ys j).c ∧ u.cell? ⟨g, j * 5 + 3, none⟩ = some (tvAt ys j).k ∧ u.cell? ⟨g, j * 5 + 4, none⟩ = some (tvAt ys j).b) := fun u hu => by
    have ou := owns_chg o1 hu (fun g' hg' e => HV.out.1 j g' hlt e ⟨_, _, by simp [Value.ownBlock] at hg'; subst hg'; rfl, hcap⟩)
    have hat2 := flatT_at (ys.set j ⟨((k + (fo j : Int)) % 3 == 0), (tvAt ys j).p, (tvAt ys j).c, (tvAt ys j).k, (tvAt ys j).b⟩) j (by simp; omega)
    have tj : tvAt (ys.set j ⟨((k + (fo j : Int)) % 3 == 0), (tvAt ys j).p, (tvAt ys j).c, (tvAt ys j).k, (tvAt ys j).b⟩) j = ⟨((k + (fo j : Int)) % 3 == 0), (tvAt ys j).p, (tvAt ys j).c, (tvAt ys j).k, (tvAt ys j).b⟩ := by
     simp [tvAt, List.getD, hyl, hlt]
    rw [tj] at hat2
    exact ⟨(ou.cellAt (j * 5 + 1) (by omega)).trans hat2.2.1, (ou.cellAt (j * 5 + 2) (by omega)).trans hat2.2.2.1, (ou.cellAt (j * 5 + 3) (by omega)).trans hat2.2.2.2.1, (ou.cellAt (j * 5 + 4) (by omega)).trans hat2.2.2.2.2⟩
   have cg : Chg (fun g' => g' = g) wr (wr.setCell ⟨g, j * 5, none⟩ (.bool ((k + (fo j : Int)) % 3 == 0))) := (Chg.refl (fun g' => g' = g) wr).setAt g (j * 5) rfl _
   have WT1 := WT.chg cg (fun g' hg' e => HV.out.1 j g' hlt hg' (by subst e; exact hgw))
   obtain ⟨t1, t2, t3, t4, t5, xs2, K2, u1, u2, u3, u4, u5⟩ := WT1
   have STEP : Hid (∀ w5 : World, Chg (K j) (wr.setCell ⟨g, j * 5, none⟩ (.bool ((k + (fo j : Int)) % 3 == 0))) w5 → TreeD (n + 1) w5 (K j) ⟨((k + (fo j : Int)) % 3 == 0), (tvAt ys j).p, (tvAt ys j).c, (tvAt ys j).k, (tvAt ys j).b⟩ ((markTs (n + 1) k ts).getD j noTr) → ∃ zs, HalfD (n + 1) (.slice (some ⟨g, 0, none⟩) m cap) m ts K k w w5 (j + 1) zs) := fun w5 h1 h2 => ⟨_, HF.out.step hlt HV.out.1 HV.out.2 hcap h1 h2⟩
   rw [HMA] at STEP
   have HH : Hid (MarkDS n) := H n rfl
   have hme := mkT_parts n (ts.getD j noTr)
   rw [hme] at hms
   have MSE : Hid _ := hms
   obtain ⟨d1, d2, d3, d4⟩ := LK.out _ (Chg.refl _ _)
   generalize hW1 : (wr.setCell ⟨g, j * 5, none⟩ (.bool ((k + (fo j : Int)) % 3 == 0))) = W1 at *
   have E1 : Hid (wr.setCell ⟨g, j * 5, none⟩ (.bool ((k + (fo j : Int)) % 3 == 0)) = W1) := hW1
   clear hW1
   generalize tvAt ys j = y at *
   obtain ⟨yl, yp, yc, yk, yb⟩ := y
   simp only at t1 t2 t3 t4 t5 u2 u4 d1 d2 d3 d4 LK STEP c0
   generalize ts.getD j noTr = t at *
   have hp0 : 0 ≤ k + (fo j : Int) := by omega
   have hp1 : k + (fo j : Int) + 1 + 2 * (t.pairs.length : Int) + t.cuts.length + (mkTs n t.kids : Nat) + 3 * (t.buf.length : Int) ≤ 67108864 := by omega
   have HP : Hid _ := markPairS_g 0 yp t.pairs (k + (fo j : Nat) + 1) W1 t2 (by omega) (by omega) (by omega)
   have TT : Hid _ := And.intro t3 (And.intro t4 (And.intro t5 (And.intro u1 (And.intro u2 (And.intro u3 (And.intro u4 (And.intro u5 t2)))))))
   clear hms hml WT t1 t2 t3 t4 t5 u1 u2 u3 u4 u5 hat o1 ow cg hme HMA H HF MA MS ML hgw hyl
   go_upto_region 6 with fail
   rw [E1.out]
   go_wp2_with fail
   refine Calls.mono HP.out ?_
   rintro e v1 ⟨rfl, p1, g1⟩
   obtain ⟨t3, t4, t5, u1, u2, u3, u4, u5, t2⟩ := TT.out
   have G1 : Hid (Chg (K j) W1 v1) := g1.mono (fun g' _ h => t5 g' (.inl h))
   have a3 := t3.chg g1 (fun g' hg' e => wrB_apart t3 t2 (by decide) hg' e)
   have a4 := t4.chg g1 (fun g' hg' e => wrB_apart t4 t2 (by decide) hg' e)
   have a2 := u2.chg g1 (fun g' hg' e => wrB_apart u2 t2 (by decide) hg' e)
   have a5 : ∀ i, i < xs2.length → TreeD n v1 (K2 i) (tvAt xs2 i) (t.kids.getD i noTr) := fun i hi => (u3 i hi).chg g1 (fun g' hg' e => (u4 i g' hi hg').2 (.inl e))
   clear d1 d2 d3 d4
   obtain ⟨d1, d2, d3, d4⟩ := LK.out v1 G1.out
   have HI : Hid _ := markIntS_g 0 yc t.cuts (k + (fo j : Nat) + 1 + 2 * (t.pairs.length : Int)) v1 a3 (by omega) (by omega) (by omega)
   have T1 : Hid _ := And.intro p1 (And.intro a3 (And.intro a4 (And.intro a2 a5)))
   clear p1 g1 a2 a3 a4 a5 t2 t3 t4 t5 u1 u2 u3 u4 u5 HP
   go_wp2_with fail
   refine Calls.mono HI.out ?_
   rintro e v2 ⟨rfl, p2, g2⟩
   obtain ⟨t3, t4, t5, u1, u2, u3, u4, u5, t2⟩ := TT.out
   obtain ⟨p1, a3, a4, a2, a5⟩ := T1.out
   have G2 : Hid (Chg (K j) W1 v2) := G1.out.trans (g2.mono (G := K j) (fun g' _ h => t5 g' (.inr (.inl h)))) (fun _ _ h => h)
   have p1 := p1.chg g2 (fun g' hg' e => wrB_apart p1 a3 (by decide) hg' e)
   have a4 := a4.chg g2 (fun g' hg' e => wrB_apart a4 a3 (by decide) hg' e)
   have a2 := a2.chg g2 (fun g' hg' e => wrB_apart a2 a3 (by decide) hg' e)
   have a5 : ∀ i, i < xs2.length → TreeD n v2 (K2 i) (tvAt xs2 i) (t.kids.getD i noTr) := fun i hi => (a5 i hi).chg g2 (fun g' hg' e => (u4 i g' hi hg').2 (.inr (.inl e)))
   clear d1 d2 d3 d4
   obtain ⟨d1, d2, d3, d4⟩ := LK.out v2 G2.out
   have HT : Hid _ := HH.out yk xs2 t.kids K2 (k + (fo j : Nat) + 1 + 2 * (t.pairs.length : Int) + (t.cuts.length : Int)) v2 u1 a2 a5 (fun i g' hi hg' e => (u4 i g' hi hg').2 (.inr (.inr (.inr e)))) u5 (by omega) (by omega)
   have T2 : Hid _ := And.intro p1 (And.intro p2 (And.intro a4 a2))
   clear p1 p2 g2 a2 a3 a4 a5 t2 t3 t4 t5 u1 u2 u3 u4 u5 HI T1 G1
   go_wp2_with fail
   refine Calls.mono HT.out ?_
   rintro e v3 ⟨rfl, ⟨zs, z1, z2, z3⟩, g3⟩
   obtain ⟨t3, t4, t5, u1, u2, u3, u4, u5, t2⟩ := TT.out
   obtain ⟨p1, p2, a4, a2⟩ := T2.out
   have G3 : Hid (Chg (K j) W1 v3) := G2.out.trans (g3.mono (G := K j) (fun g' _ h => by
    rcases h with h | ⟨i, hi, h⟩
    ·exact t5 g' (.inr (.inr (.inr h)))
    ·exact (u4 i g' hi h).1)) (fun _ _ h => h)
   have ne3 : ∀ (g' : Nat), (wrB yp g' ∨ wrB yc g' ∨ wrB yb g') → ¬ wrB yk g' → ¬ (wrB yk g' ∨ ∃ i, i < xs2.length ∧ K2 i g') := fun g' h hn e => by
    rcases e with e | ⟨i, hi, e⟩
    ·exact hn e
    ·exact (u4 i g' hi e).2 (by rcases h with h | h | h; exact .inl h; exact .inr (.inl h); exact .inr (.inr (.inl h)))
   have p1 := p1.chg g3 (fun g' hg' => ne3 g' (.inl hg') (wrB_apart p1 a2 (by decide) hg'))
   have p2 := p2.chg g3 (fun g' hg' => ne3 g' (.inr (.inl hg')) (wrB_apart p2 a2 (by decide) hg'))
   have a4 := a4.chg g3 (fun g' hg' => ne3 g' (.inr (.inr hg')) (wrB_apart a4 a2 (by decide) hg'))
   clear d1 d2 d3 d4
   obtain ⟨d1, d2, d3, d4⟩ := LK.out v3 G3.out
   have HM : Hid _ := markMsgS_g 0 yb t.buf (k + (fo j : Nat) + 1 + 2 * (t.pairs.length : Int) + (t.cuts.length : Int) + (mkTs n t.kids : Nat)) v3 a4 (by omega) (by omega) (by omega)
   have T3 : Hid _ := And.intro p1 (And.intro p2 (And.intro a4 (And.intro z1 (And.intro z2 z3))))
   clear p1 p2 g3 a2 a4 z1 z2 z3 t2 t3 t4 t5 u1 u2 u3 u4 u5 HT T2 G2 ne3 HH
   go_wp2_with fail
   refine Calls.mono HM.out ?_
   rintro e v4 ⟨rfl, p4, g4⟩
   obtain ⟨t3, t4, t5, u1, u2, u3, u4, u5, t2⟩ := TT.out
   obtain ⟨p1, p2, a4, z1, z2, z3⟩ := T3.out
   have G4 : Hid (Chg (K j) W1 v4) := G3.out.trans (g4.mono (G := K j) (fun g' _ h => t5 g' (.inr (.inr (.inl h))))) (fun _ _ h => h)
   have p1 := p1.chg g4 (fun g' hg' e => wrB_apart p1 a4 (by decide) hg' e)
   have p2 := p2.chg g4 (fun g' hg' e => wrB_apart p2 a4 (by decide) hg' e)
   have z2 := z2.chg g4 (fun g' hg' e => wrB_apart z2 a4 (by decide) hg' e)
   have z3 : ∀ i, i < xs2.length → TreeD n v4 (K2 i) (tvAt zs i) ((markTs n (k + (fo j : Nat) + 1 + 2 * (t.pairs.length : Int) + (t.cuts.length : Int)) t.kids).getD i noTr) := fun i hi => (z3 i hi).chg g4 (fun g' hg' e => (u4 i g' hi hg').2 (.inr (.inr (.inl e))))
   have TJ : TreeD (n + 1) v4 (K j) ⟨((k + (fo j : Int)) % 3 == 0), yp, yc, yk, yb⟩ (withLeaf ((k + (fo j : Nat)) % 3 == 0) (markTr (n + 1) (k + (fo j : Nat) + 1) t)) := by
    rw [markTr_succ]
    refine ⟨rfl, ?_, ?_, ?_, t5, zs, K2, ?_, z2, ?_, ?_, ?_⟩
    ·show OwnE v4 0 _ 2 yp (marksP _ _).length (flatP (marksP _ _))
     rw [marksP_length]; exact p1
    ·show OwnE v4 0 _ 1 yc (marksI _ _).length (flatI (marksI _ _))
     rw [marksI_length]; exact p2
    ·show OwnE v4 0 _ 3 yb (marksM _ _).length (flatM (marksM _ _))
     rw [marksM_length]; exact p4
    ·show zs.length = (markTs _ _ _).length
     rw [markTs_length, z1, u1]
    ·exact fun i hi => z3 i (by omega)
    ·exact fun i g' hi => u4 i g' (by omega)
    ·exact fun i j' g' hij hj' => u5 i j' g' hij (by omega)
   have FIN : Hid _ := STEP.out v4 G4.out TJ
   clear p1 p2 p4 g4 a4 z1 z2 z3 t2 t3 t4 t5 u1 u2 u3 u4 u5 HM T3 G3 G4 TT TJ STEP LK d1 d2 d3 d4
   go_wp2
   go_roundw
   case rel =>
    obtain ⟨zs', hz⟩ := FIN.out
    exact ⟨j + 1, zs', by omega, by go_num, by rw [MSE.out]; congr 1; omega, hz⟩
   case measure => simp [intOf]; omega
  ·have hjl : j = m := by omega
   subst hjl
   have E : Hid (fo j = TOT) := MF
   go_wp2
   go_ret
   refine ⟨ret_int (by rw [E.out]), ⟨ys, HF.out.len, by rw [HF.out.len]; exact HF.out.own, fun i hi => HF.out.ahead i hi hi⟩, HF.out.chg⟩

theorem markDS_any : ∀ n, MarkDS n
 | 0 => markDS_of 0 (fun _ h => by cases h)
 | n + 1 => markDS_of (n + 1) (fun n' h => by cases h; exact markDS_any n)
end
section
open Go.RowKit
end
section
open Go.RowKit

abbrev Pt := Value × Nat × List Value
def ptAt (P : List Pt) (i : Nat) : Pt := P.getD i (.slice none 0 0, 0, [])
def ptN (P : List Pt) (j : Nat) : Nat := ((P.take j).map fun p => p.2.1).sum
def ptC (P : List Pt) (j : Nat) : List Value := ((P.take j).map fun p => p.2.2).flatten
def PtOk (w : World) (size : Nat) (P : List Pt) : Prop := ∀ i, i < P.length → Row w (ptAt P i).1 (ptAt P i).2.1 (ptAt P i).2.2 ∧ (ptAt P i).2.2.length = (ptAt P i).2.1 * size ∧ ∀ y ∈ (ptAt P i).2.2, y.oneCell' = true
end
section
open Go.RowKit

theorem clone105_any (v : Value) (n : Nat) (xs : List Value) (w : World) (h : Row w v n xs) (hl : xs.length = n * 2) (h1 : ∀ y ∈ xs, y.oneCell' = true) (hn : n ≤ 8388608) :
  Calls Tryz.prog 131 #[v] w fun e w' => ∃ v', e = .returned v' ∧ OwnE w' w.heap.size 157 2 v' n xs ∧ Below w.heap.size w w' := by
 obtain ⟨a, q, hv, hq⟩ := h.len
 obtain ⟨i0, hi0, hz0, hz1, hz2⟩ := info_parts Tryz.info157
 have HR : Hid _ := room_row (n := n) (bytes := 16) hn (by decide)
 have RR : Hid (∀ u, Below w.heap.size w u → Row u v n xs) := fun u hu => h.below hu
 have HL : Hid (xs.length = n * 2) := hl
 have H1 : Hid _ := h1
 cases a with
 | none =>
  have hn0 : n = 0 := by
   obtain ⟨a, b, o, c, h3, h4, h5, h6, h7, h8⟩ := h
   rw [hv] at h3
   injection h3 with e1 e2 e3
   have := h8 e1.symm
   omega
  subst hn0
  have hx : xs = [] := List.length_eq_zero_iff.1 (by omega)
  subst hx hv
  clear h hl h1 RR H1 HL
  have hnil : ∀ W, (binOp .eql 65 (.slice none 0 q) (.slice none 0 0)).run Tryz.prog W = .ok (.bool true) W := fun W => Lib.run_eql_slice_nil_nil W _ _ Tryz.underlying65
  go_enter Tryz.func131, Tryz.ntmps131
  go_wp2
  go_ret
  exact ⟨_, rfl, OwnE.nil _ _ _ _, Below.refl _ _⟩
 | some p =>
  subst hv
  clear h hl h1
  have hnil : ∀ W, (binOp .eql 65 (.slice (some p) n q) (.slice none 0 0)).run Tryz.prog W = .ok (.bool false) W := fun W => Lib.run_eql_slice_some_nil W _ _ _ Tryz.underlying65
  go_enter Tryz.func131, Tryz.ntmps131
  go_wp2_with (at_builtin; refine list_appE (w.alloc (.cells #[] 157)) rfl _ _ 65 rfl w.heap.size 157 i0 _ 2 16 Tryz.underlying65 hi0 hz0 hz1 hz2 rfl (by decide) (.slice (some ⟨w.heap.size, 0, none⟩) 0 0) 0 [] rfl (OwnE.zero _ _ _ _ _) (.slice (some p) n q) n xs rfl (RR.out _ (al1 _ _)) HL.out H1.out HR.out.1 HR.out.2 (by simp) ?_)
  rintro v' w2 ⟨o1, o2, o3, o4⟩
  have B2 : Below w.heap.size w w2 := Below.trans (al1 _ _) o3
  clear o2 o3 o4
  go_wp2
  go_ret
  exact ⟨_, rfl, by simpa using o1, B2⟩

theorem clone106_any (v : Value) (n : Nat) (xs : List Value) (w : World) (h : Row w v n xs) (hl : xs.length = n * 1) (h1 : ∀ y ∈ xs, y.oneCell' = true) (hn : n ≤ 8388608) :
  Calls Tryz.prog 111 #[v] w fun e w' => ∃ v', e = .returned v' ∧ OwnE w' w.heap.size 3 1 v' n xs ∧ Below w.heap.size w w' := by
 obtain ⟨a, q, hv, hq⟩ := h.len
 obtain ⟨i0, hi0, hz0, hz1, hz2⟩ := info_parts Tryz.info3
 have HR : Hid _ := room_row (n := n) (bytes := 8) hn (by decide)
 have RR : Hid (∀ u, Below w.heap.size w u → Row u v n xs) := fun u hu => h.below hu
 have HL : Hid (xs.length = n * 1) := hl
 have H1 : Hid _ := h1
 cases a with
 | none =>
  have hn0 : n = 0 := by
   obtain ⟨a, b, o, c, h3, h4, h5, h6, h7, h8⟩ := h
   rw [hv] at h3
   injection h3 with e1 e2 e3
   have := h8 e1.symm
   omega
  subst hn0
  have hx : xs = [] := List.length_eq_zero_iff.1 (by omega)
  subst hx hv
  clear h hl h1 RR H1 HL
  have hnil : ∀ W, (binOp .eql 50 (.slice none 0 q) (.slice none 0 0)).run Tryz.prog W = .ok (.bool true) W := fun W => Lib.run_eql_slice_nil_nil W _ _ Tryz.underlying50
  go_enter Tryz.func111, Tryz.ntmps111
  go_wp2
  go_ret
  exact ⟨_, rfl, OwnE.nil _ _ _ _, Below.refl _ _⟩
 | some p =>
  subst hv
  clear h hl h1
  have hnil : ∀ W, (binOp .eql 50 (.slice (some p) n q) (.slice none 0 0)).run Tryz.prog W = .ok (.bool false) W := fun W => Lib.run_eql_slice_some_nil W _ _ _ Tryz.underlying50
  go_enter Tryz.func111, Tryz.ntmps111
  go_wp2_with (at_builtin; refine list_appE (w.alloc (.cells #[] 3)) rfl _ _ 50 rfl w.heap.size 3 i0 _ 1 8 Tryz.underlying50 hi0 hz0 hz1 hz2 rfl (by decide) (.slice (some ⟨w.heap.size, 0, none⟩) 0 0) 0 [] rfl (OwnE.zero _ _ _ _ _) (.slice (some p) n q) n xs rfl (RR.out _ (al1 _ _)) HL.out H1.out HR.out.1 HR.out.2 (by simp) ?_)
  rintro v' w2 ⟨o1, o2, o3, o4⟩
  have B2 : Below w.heap.size w w2 := Below.trans (al1 _ _) o3
  clear o2 o3 o4
  go_wp2
  go_ret
  exact ⟨_, rfl, by simpa using o1, B2⟩

theorem clone108_any (v : Value) (n : Nat) (xs : List Value) (w : World) (h : Row w v n xs) (hl : xs.length = n * 3) (h1 : ∀ y ∈ xs, y.oneCell' = true) (hn : n ≤ 8388608) :
  Calls Tryz.prog 133 #[v] w fun e w' => ∃ v', e = .returned v' ∧ OwnE w' w.heap.size 115 3 v' n xs ∧ Below w.heap.size w w' := by
 obtain ⟨a, q, hv, hq⟩ := h.len
 obtain ⟨i0, hi0, hz0, hz1, hz2⟩ := info_parts Tryz.info115
 have HR : Hid _ := room_row (n := n) (bytes := 24) hn (by decide)
 have RR : Hid (∀ u, Below w.heap.size w u → Row u v n xs) := fun u hu => h.below hu
 have HL : Hid (xs.length = n * 3) := hl
 have H1 : Hid _ := h1
 cases a with
 | none =>
  have hn0 : n = 0 := by
   obtain ⟨a, b, o, c, h3, h4, h5, h6, h7, h8⟩ := h
   rw [hv] at h3
   injection h3 with e1 e2 e3
   have := h8 e1.symm
   omega
  subst hn0
  have hx : xs = [] := List.length_eq_zero_iff.1 (by omega)
  subst hx hv
  clear h hl h1 RR H1 HL
  have hnil : ∀ W, (binOp .eql 67 (.slice none 0 q) (.slice none 0 0)).run Tryz.prog W = .ok (.bool true) W := fun W => Lib.run_eql_slice_nil_nil W _ _ Tryz.underlying67
  go_enter Tryz.func133, Tryz.ntmps133
  go_wp2
  go_ret
  exact ⟨_, rfl, OwnE.nil _ _ _ _, Below.refl _ _⟩
 | some p =>
  subst hv
  clear h hl h1
  have hnil : ∀ W, (binOp .eql 67 (.slice (some p) n q) (.slice none 0 0)).run Tryz.prog W = .ok (.bool false) W := fun W => Lib.run_eql_slice_some_nil W _ _ _ Tryz.underlying67
  go_enter Tryz.func133, Tryz.ntmps133
  go_wp2_with (at_builtin; refine list_appE (w.alloc (.cells #[] 115)) rfl _ _ 67 rfl w.heap.size 115 i0 _ 3 24 Tryz.underlying67 hi0 hz0 hz1 hz2 rfl (by decide) (.slice (some ⟨w.heap.size, 0, none⟩) 0 0) 0 [] rfl (OwnE.zero _ _ _ _ _) (.slice (some p) n q) n xs rfl (RR.out _ (al1 _ _)) HL.out H1.out HR.out.1 HR.out.2 (by simp) ?_)
  rintro v' w2 ⟨o1, o2, o3, o4⟩
  have B2 : Below w.heap.size w w2 := Below.trans (al1 _ _) o3
  clear o2 o3 o4
  go_wp2
  go_ret
  exact ⟨_, rfl, by simpa using o1, B2⟩

theorem clone146_any (v : Value) (n : Nat) (xs : List Value) (w : World) (h : Row w v n xs) (hl : xs.length = n * 5) (h1 : ∀ y ∈ xs, y.oneCell' = true) (hn : n ≤ 8388608) :
  Calls Tryz.prog 134 #[v] w fun e w' => ∃ v', e = .returned v' ∧ OwnE w' w.heap.size 69 5 v' n xs ∧ Below w.heap.size w w' := by
 obtain ⟨a, q, hv, hq⟩ := h.len
 obtain ⟨i0, hi0, hz0, hz1, hz2⟩ := info_parts Tryz.info69
 have HR : Hid _ := room_row (n := n) (bytes := 104) hn (by decide)
 have RR : Hid (∀ u, Below w.heap.size w u → Row u v n xs) := fun u hu => h.below hu
 have HL : Hid (xs.length = n * 5) := hl
 have H1 : Hid _ := h1
 cases a with
 | none =>
  have hn0 : n = 0 := by
   obtain ⟨a, b, o, c, h3, h4, h5, h6, h7, h8⟩ := h
   rw [hv] at h3
   injection h3 with e1 e2 e3
   have := h8 e1.symm
   omega
  subst hn0
  have hx : xs = [] := List.length_eq_zero_iff.1 (by omega)
  subst hx hv
  clear h hl h1 RR H1 HL
  have hnil : ∀ W, (binOp .eql 66 (.slice none 0 q) (.slice none 0 0)).run Tryz.prog W = .ok (.bool true) W := fun W => Lib.run_eql_slice_nil_nil W _ _ Tryz.underlying66
  go_enter Tryz.func134, Tryz.ntmps134
  go_wp2
  go_ret
  exact ⟨_, rfl, OwnE.nil _ _ _ _, Below.refl _ _⟩
 | some p =>
  subst hv
  clear h hl h1
  have hnil : ∀ W, (binOp .eql 66 (.slice (some p) n q) (.slice none 0 0)).run Tryz.prog W = .ok (.bool false) W := fun W => Lib.run_eql_slice_some_nil W _ _ _ Tryz.underlying66
  go_enter Tryz.func134, Tryz.ntmps134
  go_wp2_with (at_builtin; refine list_appE (w.alloc (.cells #[] 69)) rfl _ _ 66 rfl w.heap.size 69 i0 _ 5 104 Tryz.underlying66 hi0 hz0 hz1 hz2 rfl (by decide) (.slice (some ⟨w.heap.size, 0, none⟩) 0 0) 0 [] rfl (OwnE.zero _ _ _ _ _) (.slice (some p) n q) n xs rfl (RR.out _ (al1 _ _)) HL.out H1.out HR.out.1 HR.out.2 (by simp) ?_)
  rintro v' w2 ⟨o1, o2, o3, o4⟩
  have B2 : Below w.heap.size w w2 := Below.trans (al1 _ _) o3
  clear o2 o3 o4
  go_wp2
  go_ret
  exact ⟨_, rfl, by simpa using o1, B2⟩
end
section
open Go.RowKit

def keyV (a : Addr) (n : Int) : Value := .agg #[.pointer (some a), .int .i64 n]

theorem key_fields : ∃ f1 f2 : Field, (Tryz.prog.fieldsOf 204).toList = [f1, f2] ∧ f1.name = "first" ∧ f1.type = 194 ∧ f1.offset = 0 ∧ f2.name = "count" ∧ f2.type = 3 ∧ f2.offset = 1 := by
 have hF : (Tryz.prog.fieldsOf 204).toList.map (fun f => (f.name, f.type, f.offset)) = [("first", 194, 0), ("count", 3, 1)] := by kernel_rfl
 generalize (Tryz.prog.fieldsOf 204).toList = l at hF
 have hl : l.length = 2 := by have := congrArg List.length hF; simpa using this
 rcases l with _ | ⟨f1, _ | ⟨f2, _ | ⟨f3, l⟩⟩⟩ <;> simp at hl
 simp at hF
 exact ⟨f1, f2, rfl, hF.1.1, hF.1.2.1, hF.1.2.2, hF.2.1, hF.2.2.1, hF.2.2.2⟩

theorem keyEq (a b : Addr) (n m : Int) (w : World) (ha : Plain w a.block) (hb : Plain w b.block) :
  (Op.equalIn 10000 204 (keyV a n) (keyV b m)).run Tryz.prog w = .ok (a == b && n == m) w := by
 have u3 := Tryz.underlying3
 have hS : Tryz.prog.underlying 204 = some (.struct (Tryz.prog.fieldsOf 204)) := by kernel_rfl
 have hp : Tryz.prog.stoodInHeld 204 = false := by kernel_rfl
 have P1 : ∀ (a : Addr) (n : Int) w, (part 194 #[.pointer (some a), .int .i64 n] 0).run Tryz.prog w = .ok (.pointer (some a)) w := fun a n w => by kernel_rfl
 have P2 : ∀ (a : Addr) (n : Int) w, (part 3 #[.pointer (some a), .int .i64 n] 1).run Tryz.prog w = .ok (.int .i64 n) w := fun a n w => by kernel_rfl
 have hu : Tryz.prog.underlying 194 = some (.pointer 69) := by kernel_rfl
 obtain ⟨i0, hi0, _, hz1, _⟩ := info_parts Tryz.info69
 have E0 : ∀ d : Nat, (Op.equalIn (d + 1) 194 (.pointer (some a)) (.pointer (some b))).run Tryz.prog w = .ok (a == b) w := fun d => by
  have hs : (sizeOf 69).run Tryz.prog w = .ok 5 w := by simp [sizeOf, typeInfo, hi0, hz1, run_program]
  have h2 : (sameAddr a b).run Tryz.prog w = .ok (a == b) w := by
   by_cases e : a = b
   ·subst e
    simpa using run_sameAddr_same (P := Tryz.prog) (w := w) a
   ·obtain ⟨c1, t1, h1⟩ := ha
    obtain ⟨c2, t2, h2⟩ := hb
    have := run_sameAddr_other (P := Tryz.prog) w e h1 h2
    rw [this]
    simp [e]
  simp [Op.equalIn, run_underlying hu, hs, h2]
 have E1 : (Op.equalIn 9999 194 (.pointer (some a)) (.pointer (some b))).run Tryz.prog w = .ok (a == b) w := E0 9998
 have E2 : (Op.equalIn 9999 3 (.int .i64 n) (.int .i64 m)).run Tryz.prog w = .ok (n == m) w := run_equalIn_int w 9998 3 .i64 .i64 n m u3
 unfold keyV
 rw [show (10000 : Nat) = 9999 + 1 from rfl, run_equalIn_agg w 9999 204 _ _ hS hp]
 obtain ⟨f1, f2, hF, q1, q2, q3, q4, q5, q6⟩ := key_fields
 rw [hF]
 simp only [Op.eqFields, q1, q2, q3, q4, q5, q6, Sem.run_bind, Sem.run_ite, P1, P2, E1, E2, Result.andThen_ok]
 by_cases h1 : a = b <;> by_cases h2 : n = m <;> simp [h1, h2]

def KeysIn0 (w : World) (V : Nat → Prop) (es : List MapEntry) : Prop := ∀ e ∈ es, ∃ a n, e.key = keyV a n ∧ Plain w a.block ∧ V a.block

def MadeAt (w : World) (M : Nat) (V : Nat → Prop) : Prop := ∃ es clock, w.heap[M]? = some (.map es clock) ∧ KeysIn0 w V es.toList

theorem find_made {w : World} {V : Nat → Prop} (a : Addr) (n : Int) (ha : Plain w a.block) : ∀ (es : List MapEntry) (i : Nat), KeysIn0 w V es → ∃ r, (∀ w', w'.heap = w.heap → (Instr.findAsking 204 (keyV a n) es i).run Tryz.prog w' = .ok r w') ∧ ∀ j v, r = some (j, v) → V a.block ∧ i ≤ j ∧ ∃ e, es[j - i]? = some e ∧ e.key = keyV a n
 | [], i, _ => ⟨none, fun _ _ => rfl, fun _ _ h => by simp at h⟩
 | e :: es, i, h => by
  obtain ⟨b, m, he, hb, hv⟩ := h e (by simp)
  obtain ⟨r, hr, hq⟩ := find_made a n ha es (i + 1) (fun x hx => h x (by simp [hx]))
  have hE : ∀ w', w'.heap = w.heap → (Op.equal 204 (keyV a n) e.key).run Tryz.prog w' = .ok (a == b && n == m) w' := fun w' hw => by rw [he]; exact keyEq a b n m w' (by rw [Plain, hw]; exact ha) (by rw [Plain, hw]; exact hb)
  cases hc : (a == b && n == m)
  ·refine ⟨r, ?_, fun j v hj => ?_⟩
   ·intro w' hw
    simp [Instr.findAsking, hE w' hw, hc, hr w' hw]
   ·obtain ⟨q1, q2, e', q3, q4⟩ := hq j v hj
    refine ⟨q1, by omega, e', ?_, q4⟩
    rw [show j - i = (j - (i + 1)) + 1 by omega]
    simpa using q3
  ·simp only [Bool.and_eq_true, beq_iff_eq] at hc
   obtain ⟨rfl, rfl⟩ := hc
   refine ⟨some (i, e.val), ?_, fun j v hj => ?_⟩
   ·intro w' hw
    simp [Instr.findAsking, hE w' hw]
   ·simp at hj
    obtain ⟨rfl, rfl⟩ := hj
    exact ⟨hv, Nat.le_refl _, e, by simp, he⟩

theorem findKey_made {w : World} {V : Nat → Prop} (a : Addr) (n : Int) (ha : Plain w a.block) (es : List MapEntry) (h : KeysIn0 w V es) : ∃ r, (∀ w', w'.heap = w.heap → (Instr.findKey 204 (keyV a n) es).run Tryz.prog w' = .ok r w') ∧ ∀ j v, r = some (j, v) → V a.block ∧ ∃ e, es[j]? = some e ∧ e.key = keyV a n := by
 have hS : Tryz.prog.underlying 204 = some (.struct (Tryz.prog.fieldsOf 204)) := by kernel_rfl
 cases es with
 | nil => exact ⟨none, fun w' _ => by simp [Instr.findKey, run_underlying hS, Instr.findNow], fun _ _ h => by simp at h⟩
 | cons e es =>
  obtain ⟨r, hr, hq⟩ := find_made a n ha (e :: es) 0 h
  refine ⟨r, ?_, fun j v hj => ?_⟩
  ·intro w' hw
   simp [Instr.findKey, run_underlying hS, Instr.findNow, Instr.sameNow, hr w' hw]
  ·obtain ⟨q1, _, e', q3, q4⟩ := hq j v hj
   exact ⟨q1, e', by simpa using q3, q4⟩

theorem check_key (b : Bool) (a : Addr) (n : Int) (w : World) : (Instr.checkKey b 10000 204 (keyV a n)).run Tryz.prog w = .ok () w := by kernel_rfl

theorem look_made {w : World} {M : Nat} {V : Nat → Prop} (hM : MadeAt w M V) (a : Addr) (n : Int) (ha : Plain w a.block) : ∃ v met, (∀ w', w'.heap = w.heap → (Instr.lookup 193 (.map (some M)) (keyV a n) true).run Tryz.prog w' = .ok (.tuple #[v, .bool met]) w') ∧ (met = true → V a.block) := by
 obtain ⟨es, clock, hb, hk⟩ := hM
 have hu : Tryz.prog.underlying 193 = some (.map 204 66) := by kernel_rfl
 have hz : ∀ w', (zeroValue 66).run Tryz.prog w' = .ok (.slice none 0 0) w' := fun w' => by kernel_rfl
 obtain ⟨r, hr, hq⟩ := findKey_made a n ha es.toList hk
 cases r with
 | none => exact ⟨.slice none 0 0, false, fun w' hw => by simp [Instr.lookup, run_underlying hu, MapKept.run_getObj_map (w := w') (by rw [hw]; exact hb), check_key, hr w' hw, hz], fun h => by simp at h⟩
 | some r => exact ⟨r.2, true, fun w' hw => by simp [Instr.lookup, run_underlying hu, MapKept.run_getObj_map (w := w') (by rw [hw]; exact hb), check_key, hr w' hw], fun _ => (hq r.1 r.2 rfl).1⟩
end
end Go.Proofs.YtkcaelfkcepdkaaGreat
