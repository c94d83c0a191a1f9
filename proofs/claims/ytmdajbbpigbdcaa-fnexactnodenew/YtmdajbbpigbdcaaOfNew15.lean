/-
  Marks of whole trees: markTree over a tree in memory of its own.
  The laws' functions that write marks into a machine, and look for them.
-/
import Derived.Test.YtmdajbbpigbdcaaOfNew14
import Derived.Deep.DeepCutAuto
import Derived.Deep.CutBlock
import Derived.Test.YtmdajbbpigbdcaaOfNew13
import Derived.Test.YtmdajbbpigbdcaaOfNew8
namespace Go.Proofs.Ytmdajbbpigbdcaa
set_option maxRecDepth 100000
set_option maxHeartbeats 8000000
section
open Go.RowKit

theorem flatT_flag (l : List TV) (b : Bool) : ∀ i, i < l.length → (flatT l).set (i * 5) (.bool b) = flatT (l.set i ⟨b, (tvAt l i).p, (tvAt l i).c, (tvAt l i).k, (tvAt l i).b⟩) := by
 induction l with
 | nil => intro i h; simp at h
 | cons p l ih =>
  intro i h
  cases i with
  | zero => simp [flatT_cons, tvAt]
  | succ i =>
   have := ih i (by simpa using h)
   rw [flatT_cons, List.set_cons_succ, flatT_cons, show (i + 1) * 5 = i * 5 + 1 + 1 + 1 + 1 + 1 by omega]
   simp only [List.set_cons_succ, this]
   simp [tvAt]
theorem wrB_ty {w : World} {b e s n : Nat} {v : Value} {xs : List Value} (h : OwnE w b e s v n xs) {g : Nat} (hg : wrB v g) : ∃ cur, w.heap[g]? = some (.cells cur e (0, 0)) := by
 obtain ⟨k, cap, rfl, hc⟩ := hg
 rcases h with h | ⟨_, _, g', h'⟩
 ·exact (owns_lt h (g := g) rfl).2
 ·simp at h'; omega
theorem wrB_apart {w : World} {b b' e e' s s' n n' : Nat} {v v' : Value} {xs xs' : List Value} (h : OwnE w b e s v n xs) (h' : OwnE w b' e' s' v' n' xs') (ht : e ≠ e') {g : Nat} (hg : wrB v g) : ¬ wrB v' g := fun hg' => by
 obtain ⟨c, hc⟩ := wrB_ty h hg
 obtain ⟨c', hc'⟩ := wrB_ty h' hg'
 rw [hc] at hc'
 simp at hc'
 exact ht hc'.2

def MarkDS (n : Nat) : Prop := ∀ (v : Value) (xs : List TV) (ts : List Tr) (K : Nat → Nat → Prop) (k : Int) (w : World), xs.length = ts.length → OwnE w 0 30 5 v xs.length (flatT xs) →
 (∀ i, i < xs.length → TreeD n w (K i) (tvAt xs i) (ts.getD i noTr)) → (∀ i g, i < xs.length → K i g → ¬ wrB v g) → (∀ i j g, i < j → j < xs.length → K i g → ¬ K j g) → 0 ≤ k → k + (mkTs n ts : Nat) ≤ 67108864 →
 Calls Try.prog 83 #[v, .int .i64 k] w fun e w' => e = .returned (.int .i64 (k + (mkTs n ts : Nat))) ∧
  (∃ ys : List TV, ys.length = xs.length ∧ OwnE w' 0 30 5 v ys.length (flatT ys) ∧ ∀ i, i < xs.length → TreeD n w' (K i) (tvAt ys i) ((markTs n k ts).getD i noTr)) ∧ Chg (fun g => wrB v g ∨ ∃ i, i < xs.length ∧ K i g) w w'

structure HalfD (n : Nat) (v : Value) (m : Nat) (ts : List Tr) (K : Nat → Nat → Prop) (k : Int) (w wr : World) (j : Nat) (ys : List TV) : Prop where
 len : ys.length = m
 own : OwnE wr 0 30 5 v m (flatT ys)
 ahead : ∀ i, i < j → i < m → TreeD n wr (K i) (tvAt ys i) ((markTs n k ts).getD i noTr)
 rest : ∀ i, j ≤ i → i < m → TreeD n wr (K i) (tvAt ys i) (ts.getD i noTr)
 chg : Chg (fun g => wrB v g ∨ ∃ i, i < m ∧ K i g) w wr

theorem HalfD.step {n m j g cap : Nat} {ts : List Tr} {K : Nat → Nat → Prop} {k : Int} {w wr w5 : World} {ys : List TV} {flag : Bool} (h : HalfD n (.slice (some ⟨g, 0, none⟩) m cap) m ts K k w wr j ys) (hj : j < m)
  (hv : ∀ i g', i < m → K i g' → ¬ wrB (.slice (some ⟨g, 0, none⟩) m cap) g') (hd : ∀ i j g', i < j → j < m → K i g' → ¬ K j g') (hcap : 0 < cap)
  (hc : Chg (K j) (wr.setCell ⟨g, j * 5, none⟩ (.bool flag)) w5)
  (ht : TreeD n w5 (K j) ⟨flag, (tvAt ys j).p, (tvAt ys j).c, (tvAt ys j).k, (tvAt ys j).b⟩ ((markTs n k ts).getD j noTr)) :
  HalfD n (.slice (some ⟨g, 0, none⟩) m cap) m ts K k w w5 (j + 1) (ys.set j ⟨flag, (tvAt ys j).p, (tvAt ys j).c, (tvAt ys j).k, (tvAt ys j).b⟩) := by
 have hg : wrB (.slice (some ⟨g, 0, none⟩) m cap) g := ⟨_, _, rfl, hcap⟩
 have c1 : Chg (fun g' => g' = g) wr (wr.setCell ⟨g, j * 5, none⟩ (.bool flag)) := (Chg.refl (fun g' => g' = g) wr).setAt g (j * 5) rfl _
 have hl := h.len
 have ow : wr.ownsRow 0 30 5 (.slice (some ⟨g, 0, none⟩) m cap) m (flatT ys) := by
  rcases h.own with h | ⟨h, _⟩
  ·exact h
  ·omega
 have o1 := (ow.stored (j * 5) (.bool flag)).1
 rw [flatT_flag ys flag j (by omega)] at o1
 have o5 := owns_chg o1 hc (fun g' hg' e => hv j g' hj e ⟨_, _, by simp [Value.ownBlock] at hg'; subst hg'; rfl, hcap⟩)
 have other : ∀ (i : Nat) (T : Tr) (x : TV), i < m → i ≠ j → TreeD n wr (K i) x T → TreeD n w5 (K i) x T := fun i T x hi hij t =>
  (t.chg c1 (fun g' hg' e => hv i g' hi hg' (by subst e; exact hg))).chg hc (fun g' hg' e => by
   rcases Nat.lt_or_gt_of_ne hij with h | h
   ·exact hd i j g' h hj hg' e
   ·exact hd j i g' h hi e hg')
 have tv : ∀ i, i ≠ j → tvAt (ys.set j ⟨flag, (tvAt ys j).p, (tvAt ys j).c, (tvAt ys j).k, (tvAt ys j).b⟩) i = tvAt ys i := fun i hi => by
  simp [tvAt, List.getD, List.getElem?_set_ne (Ne.symm hi)]
 have tj : tvAt (ys.set j ⟨flag, (tvAt ys j).p, (tvAt ys j).c, (tvAt ys j).k, (tvAt ys j).b⟩) j = ⟨flag, (tvAt ys j).p, (tvAt ys j).c, (tvAt ys j).k, (tvAt ys j).b⟩ := by
  simp [tvAt, List.getD, hl, hj]
 refine ⟨by simp [hl], .inl o5, fun i hi him => ?_, fun i hi him => ?_, (h.chg.trans c1 (fun g' _ e => .inl (by subst e; exact hg))).trans hc (fun g' _ e => .inr ⟨j, hj, e⟩)⟩
 ·by_cases e : i = j
  ·subst e; rw [tj]; exact ht
  ·rw [tv i e]; exact other i _ _ him e (h.ahead i (by omega) him)
 ·rw [tv i (by omega)]; exact other i _ _ him (by omega) (h.rest i (by omega) him)

theorem markDS_of (n : Nat) (H : ∀ n', n = n' + 1 → MarkDS n') : MarkDS n := by
 intro v xs ts K k w hl ho hkid hv hd hk0 hk1
 obtain ⟨a, cap, hvv⟩ := ho.slice
 subst hvv
 have hlen : xs.length ≤ 67108864 := by
  have : ts.length ≤ mkTs n ts := by unfold mkTs; omega
  omega
 have MS : Hid (∀ i, i < xs.length → mkTo n ts (i + 1) = mkTo n ts i + (1 + mkT n (ts.getD i noTr))) := fun i hi => mkTo_succ n ts i (by omega)
 have ML : Hid (∀ i, i ≤ xs.length → mkTo n ts i ≤ mkTs n ts) := fun i hi => mkTo_le n ts i (by omega)
 have MF : Hid (mkTo n ts xs.length = mkTs n ts) := by
  show _ = _
  rw [hl, mkTo_full]
 have M0 : Hid (mkTo n ts 0 = 0) := by
  show _ = _
  simp [mkTo]
 have MA : Hid (∀ i, i < xs.length → (markTs n k ts).getD i noTr = withLeaf ((k + (mkTo n ts i : Nat)) % 3 == 0) (markTr n (k + (mkTo n ts i : Nat) + 1) (ts.getD i noTr))) := fun i hi => markTs_at n k ts i (by omega)
 have H0 : Hid (HalfD n (.slice a xs.length cap) xs.length ts K k w w 0 xs) := ⟨rfl, ho, fun i hi => absurd hi (Nat.not_lt_zero _), fun i _ hi => hkid i hi, Chg.refl _ _⟩
 have HV : Hid _ := And.intro hv hd
 clear ho hkid hv hd hl
 generalize mkTs n ts = TOT at *
 generalize hfo : mkTo n ts = fo at *
 generalize xs.length = m at *
 have hm63 : (m : Int) ≤ 67108864 := by omega
 clear hfo
 go_enter Try.func83, Try.ntmps83
 go_wp2
 go_loopw [1, 5] (fun kk i wr => ∃ (j : Nat) (ys : List TV), j ≤ m ∧ i = .int .i64 j ∧ kk = .int .i64 (k + (fo j : Nat)) ∧ Hid (HalfD n (.slice a m cap) m ts K k w wr j ys)) (fun _ i _ => m - (intOf i).toNat)
 case atStart => exact ⟨0, xs, Nat.zero_le _, rfl, by rw [M0.out]; simp, H0⟩
 case round =>
  obtain ⟨j, ys, hj, rfl, rfl, HF⟩ := hrel
  by_cases hlt : j < m
  ·have ow : wr.ownsRow 0 30 5 (.slice a m cap) m (flatT ys) := by
    rcases HF.out.own with h | ⟨h, _⟩
    ·exact h
    ·omega
   obtain ⟨g, hag, hcap⟩ : ∃ g, a = some ⟨g, 0, none⟩ ∧ 0 < cap := by
    obtain ⟨_, ⟨e, e2⟩ | ⟨g, cap', cur, e, _, _, hle, _⟩⟩ := id ow
    ·omega
    ·simp at e
     exact ⟨g, e.1, by omega⟩
   subst hag
   have hyl := HF.out.len
   have hms := MS.out j hlt
   have hml := ML.out (j + 1) (by omega)
   have HMA := MA.out j hlt
   have WT := HF.out.rest j (Nat.le_refl _) hlt
   cases n with
   | zero => exact WT.elim
   | succ n =>
   have hat := flatT_at ys j (by omega)
   have c0 := (ow.cellAt (j * 5) (by omega)).trans hat.1
   have f0 := ow.frozenAt (j * 5)
   have o1 := (ow.stored (j * 5) (.bool ((k + (fo j : Int)) % 3 == 0))).1
   rw [flatT_flag ys _ j (by omega)] at o1
   have hgw : wrB (.slice (some ⟨g, 0, none⟩) m cap) g := ⟨_, _, rfl, hcap⟩
   have LK : Hid (∀ u : World, Chg (K j) (wr.setCell ⟨g, j * 5, none⟩ (.bool ((k + (fo j : Int)) % 3 == 0))) u → u.cell? ⟨g, j * 5 + 1, none⟩ = some (tvAt ys j).p ∧ u.cell? ⟨g, j * 5 + 2, none⟩ = some (tvAt ys j).c ∧ u.cell? ⟨g, j * 5 + 3, none⟩ = some (tvAt ys j).k ∧ u.cell? ⟨g, j * 5 + 4, none⟩ = some (tvAt ys j).b) := fun u hu => by
    have ou := owns_chg o1 hu (fun g' hg' e => HV.out.1 j g' hlt e ⟨_, _, by simp [Value.ownBlock] at hg'; subst hg'; rfl, hcap⟩)
    have hat2 := flatT_at (ys.set j ⟨((k + (fo j : Int)) % 3 == 0), (tvAt ys j).p, (tvAt ys j).c, (tvAt ys j).k, (tvAt ys j).b⟩) j (by simp; omega)
    have tj : tvAt (ys.set j ⟨((k + (fo j : Int)) % 3 == 0), (tvAt ys j).p, (tvAt ys j).c, (tvAt ys j).k, (tvAt ys j).b⟩) j = ⟨((k + (fo j : Int)) % 3 == 0), (tvAt ys j).p, (tvAt ys j).c, (tvAt ys j).k, (tvAt ys j).b⟩ := by
     simp [tvAt, List.getD, hyl, hlt]
    rw [tj] at hat2
    exact ⟨(ou.cellAt (j * 5 + 1) (by omega)).trans hat2.2.1, (ou.cellAt (j * 5 + 2) (by omega)).trans hat2.2.2.1, (ou.cellAt (j * 5 + 3) (by omega)).trans hat2.2.2.2.1, (ou.cellAt (j * 5 + 4) (by omega)).trans hat2.2.2.2.2⟩
   have cg : Chg (fun g' => g' = g) wr (wr.setCell ⟨g, j * 5, none⟩ (.bool ((k + (fo j : Int)) % 3 == 0))) := (Chg.refl (fun g' => g' = g) wr).setAt g (j * 5) rfl _
   have WT1 := WT.chg cg (fun g' hg' e => HV.out.1 j g' hlt hg' (by subst e; exact hgw))
   obtain ⟨t1, t2, t3, t4, t5, xs2, K2, u1, u2, u3, u4, u5⟩ := WT1
   have STEP : Hid (∀ w5 : World, Chg (K j) (wr.setCell ⟨g, j * 5, none⟩ (.bool ((k + (fo j : Int)) % 3 == 0))) w5 → TreeD (n + 1) w5 (K j) ⟨((k + (fo j : Int)) % 3 == 0), (tvAt ys j).p, (tvAt ys j).c, (tvAt ys j).k, (tvAt ys j).b⟩ ((markTs (n + 1) k ts).getD j noTr) → ∃ zs, HalfD (n + 1) (.slice (some ⟨g, 0, none⟩) m cap) m ts K k w w5 (j + 1) zs) := fun w5 h1 h2 => ⟨_, HF.out.step hlt HV.out.1 HV.out.2 hcap h1 h2⟩
   rw [HMA] at STEP
   have HH : Hid (MarkDS n) := H n rfl
   have hme := mkT_parts n (ts.getD j noTr)
   rw [hme] at hms
   have MSE : Hid _ := hms
   obtain ⟨d1, d2, d3, d4⟩ := LK.out _ (Chg.refl _ _)
   generalize hW1 : (wr.setCell ⟨g, j * 5, none⟩ (.bool ((k + (fo j : Int)) % 3 == 0))) = W1 at *
   have E1 : Hid (wr.setCell ⟨g, j * 5, none⟩ (.bool ((k + (fo j : Int)) % 3 == 0)) = W1) := hW1
   clear hW1
   generalize tvAt ys j = y at *
   obtain ⟨yl, yp, yc, yk, yb⟩ := y
   simp only at t1 t2 t3 t4 t5 u2 u4 d1 d2 d3 d4 LK STEP c0
   generalize ts.getD j noTr = t at *
   have hp0 : 0 ≤ k + (fo j : Int) := by omega
   have hp1 : k + (fo j : Int) + 1 + 2 * (t.pairs.length : Int) + t.cuts.length + (mkTs n t.kids : Nat) + 3 * (t.buf.length : Int) ≤ 67108864 := by omega
   have HP : Hid _ := markPairS_g 0 yp t.pairs (k + (fo j : Nat) + 1) W1 t2 (by omega) (by omega) (by omega)
   have TT : Hid _ := And.intro t3 (And.intro t4 (And.intro t5 (And.intro u1 (And.intro u2 (And.intro u3 (And.intro u4 (And.intro u5 t2)))))))
   clear hms hml WT t1 t2 t3 t4 t5 u1 u2 u3 u4 u5 hat o1 ow cg hme HMA H HF MA MS ML hgw hyl
   go_upto_region 6 with fail
   rw [E1.out]
   go_wp2_with fail
   refine Calls.mono HP.out ?_
   rintro e v1 ⟨rfl, p1, g1⟩
   obtain ⟨t3, t4, t5, u1, u2, u3, u4, u5, t2⟩ := TT.out
   have G1 : Hid (Chg (K j) W1 v1) := g1.mono (fun g' _ h => t5 g' (.inl h))
   have a3 := t3.chg g1 (fun g' hg' e => wrB_apart t3 t2 (by decide) hg' e)
   have a4 := t4.chg g1 (fun g' hg' e => wrB_apart t4 t2 (by decide) hg' e)
   have a2 := u2.chg g1 (fun g' hg' e => wrB_apart u2 t2 (by decide) hg' e)
   have a5 : ∀ i, i < xs2.length → TreeD n v1 (K2 i) (tvAt xs2 i) (t.kids.getD i noTr) := fun i hi => (u3 i hi).chg g1 (fun g' hg' e => (u4 i g' hi hg').2 (.inl e))
   clear d1 d2 d3 d4
   obtain ⟨d1, d2, d3, d4⟩ := LK.out v1 G1.out
   have HI : Hid _ := markIntS_g 0 yc t.cuts (k + (fo j : Nat) + 1 + 2 * (t.pairs.length : Int)) v1 a3 (by omega) (by omega) (by omega)
   have T1 : Hid _ := And.intro p1 (And.intro a3 (And.intro a4 (And.intro a2 a5)))
   clear p1 g1 a2 a3 a4 a5 t2 t3 t4 t5 u1 u2 u3 u4 u5 HP
   go_wp2_with fail
   refine Calls.mono HI.out ?_
   rintro e v2 ⟨rfl, p2, g2⟩
   obtain ⟨t3, t4, t5, u1, u2, u3, u4, u5, t2⟩ := TT.out
   obtain ⟨p1, a3, a4, a2, a5⟩ := T1.out
   have G2 : Hid (Chg (K j) W1 v2) := G1.out.trans (g2.mono (G := K j) (fun g' _ h => t5 g' (.inr (.inl h)))) (fun _ _ h => h)
   have p1 := p1.chg g2 (fun g' hg' e => wrB_apart p1 a3 (by decide) hg' e)
   have a4 := a4.chg g2 (fun g' hg' e => wrB_apart a4 a3 (by decide) hg' e)
   have a2 := a2.chg g2 (fun g' hg' e => wrB_apart a2 a3 (by decide) hg' e)
   have a5 : ∀ i, i < xs2.length → TreeD n v2 (K2 i) (tvAt xs2 i) (t.kids.getD i noTr) := fun i hi => (a5 i hi).chg g2 (fun g' hg' e => (u4 i g' hi hg').2 (.inr (.inl e)))
   clear d1 d2 d3 d4
   obtain ⟨d1, d2, d3, d4⟩ := LK.out v2 G2.out
   have HT : Hid _ := HH.out yk xs2 t.kids K2 (k + (fo j : Nat) + 1 + 2 * (t.pairs.length : Int) + (t.cuts.length : Int)) v2 u1 a2 a5 (fun i g' hi hg' e => (u4 i g' hi hg').2 (.inr (.inr (.inr e)))) u5 (by omega) (by omega)
   have T2 : Hid _ := And.intro p1 (And.intro p2 (And.intro a4 a2))
   clear p1 p2 g2 a2 a3 a4 a5 t2 t3 t4 t5 u1 u2 u3 u4 u5 HI T1 G1
   go_wp2_with fail
   refine Calls.mono HT.out ?_
   rintro e v3 ⟨rfl, ⟨zs, z1, z2, z3⟩, g3⟩
   obtain ⟨t3, t4, t5, u1, u2, u3, u4, u5, t2⟩ := TT.out
   obtain ⟨p1, p2, a4, a2⟩ := T2.out
   have G3 : Hid (Chg (K j) W1 v3) := G2.out.trans (g3.mono (G := K j) (fun g' _ h => by
    rcases h with h | ⟨i, hi, h⟩
    ·exact t5 g' (.inr (.inr (.inr h)))
    ·exact (u4 i g' hi h).1)) (fun _ _ h => h)
   have ne3 : ∀ (g' : Nat), (wrB yp g' ∨ wrB yc g' ∨ wrB yb g') → ¬ wrB yk g' → ¬ (wrB yk g' ∨ ∃ i, i < xs2.length ∧ K2 i g') := fun g' h hn e => by
    rcases e with e | ⟨i, hi, e⟩
    ·exact hn e
    ·exact (u4 i g' hi e).2 (by rcases h with h | h | h; exact .inl h; exact .inr (.inl h); exact .inr (.inr (.inl h)))
   have p1 := p1.chg g3 (fun g' hg' => ne3 g' (.inl hg') (wrB_apart p1 a2 (by decide) hg'))
   have p2 := p2.chg g3 (fun g' hg' => ne3 g' (.inr (.inl hg')) (wrB_apart p2 a2 (by decide) hg'))
   have a4 := a4.chg g3 (fun g' hg' => ne3 g' (.inr (.inr hg')) (wrB_apart a4 a2 (by decide) hg'))
   clear d1 d2 d3 d4
   obtain ⟨d1, d2, d3, d4⟩ := LK.out v3 G3.out
   have HM : Hid _ := markMsgS_g 0 yb t.buf (k + (fo j : Nat) + 1 + 2 * (t.pairs.length : Int) + (t.cuts.length : Int) + (mkTs n t.kids : Nat)) v3 a4 (by omega) (by omega) (by omega)
   have T3 : Hid _ := And.intro p1 (And.intro p2 (And.intro a4 (And.intro z1 (And.intro z2 z3))))
   clear p1 p2 g3 a2 a4 z1 z2 z3 t2 t3 t4 t5 u1 u2 u3 u4 u5 HT T2 G2 ne3 HH
   go_wp2_with fail
   refine Calls.mono HM.out ?_
   rintro e v4 ⟨rfl, p4, g4⟩
   obtain ⟨t3, t4, t5, u1, u2, u3, u4, u5, t2⟩ := TT.out
   obtain ⟨p1, p2, a4, z1, z2, z3⟩ := T3.out
   have G4 : Hid (Chg (K j) W1 v4) := G3.out.trans (g4.mono (G := K j) (fun g' _ h => t5 g' (.inr (.inr (.inl h))))) (fun _ _ h => h)
   have p1 := p1.chg g4 (fun g' hg' e => wrB_apart p1 a4 (by decide) hg' e)
   have p2 := p2.chg g4 (fun g' hg' e => wrB_apart p2 a4 (by decide) hg' e)
   have z2 := z2.chg g4 (fun g' hg' e => wrB_apart z2 a4 (by decide) hg' e)
   have z3 : ∀ i, i < xs2.length → TreeD n v4 (K2 i) (tvAt zs i) ((markTs n (k + (fo j : Nat) + 1 + 2 * (t.pairs.length : Int) + (t.cuts.length : Int)) t.kids).getD i noTr) := fun i hi => (z3 i hi).chg g4 (fun g' hg' e => (u4 i g' hi hg').2 (.inr (.inr (.inl e))))
   have TJ : TreeD (n + 1) v4 (K j) ⟨((k + (fo j : Int)) % 3 == 0), yp, yc, yk, yb⟩ (withLeaf ((k + (fo j : Nat)) % 3 == 0) (markTr (n + 1) (k + (fo j : Nat) + 1) t)) := by
    rw [markTr_succ]
    refine ⟨rfl, ?_, ?_, ?_, t5, zs, K2, ?_, z2, ?_, ?_, ?_⟩
    ·show OwnE v4 0 _ 2 yp (marksP _ _).length (flatP (marksP _ _))
     rw [marksP_length]; exact p1
    ·show OwnE v4 0 _ 1 yc (marksI _ _).length (flatI (marksI _ _))
     rw [marksI_length]; exact p2
    ·show OwnE v4 0 _ 3 yb (marksM _ _).length (flatM (marksM _ _))
     rw [marksM_length]; exact p4
    ·show zs.length = (markTs _ _ _).length
     rw [markTs_length, z1, u1]
    ·exact fun i hi => z3 i (by omega)
    ·exact fun i g' hi => u4 i g' (by omega)
    ·exact fun i j' g' hij hj' => u5 i j' g' hij (by omega)
   have FIN : Hid _ := STEP.out v4 G4.out TJ
   clear p1 p2 p4 g4 a4 z1 z2 z3 t2 t3 t4 t5 u1 u2 u3 u4 u5 HM T3 G3 G4 TT TJ STEP LK d1 d2 d3 d4
   go_wp2
   go_roundw
   case rel =>
    obtain ⟨zs', hz⟩ := FIN.out
    exact ⟨j + 1, zs', by omega, by go_num, by rw [MSE.out]; congr 1; omega, hz⟩
   case measure => simp [intOf]; omega
  ·have hjl : j = m := by omega
   subst hjl
   have E : Hid (fo j = TOT) := MF
   go_wp2
   go_ret
   refine ⟨ret_int (by rw [E.out]), ⟨ys, HF.out.len, by rw [HF.out.len]; exact HF.out.own, fun i hi => HF.out.ahead i hi hi⟩, HF.out.chg⟩

theorem markDS_any : ∀ n, MarkDS n
 | 0 => markDS_of 0 (fun _ h => by cases h)
 | n + 1 => markDS_of (n + 1) (fun n' h => by cases h; exact markDS_any n)

theorem markTree_d (n : Nat) (x : TV) (T : Tr) (F : Nat → Prop) (k : Int) (w : World) (ht : TreeD n w F x T) (hF : ∀ g, F g → g < w.heap.size) (hk0 : 0 ≤ k) (hk1 : k + (mkT n T : Nat) ≤ 67108864) :
  Calls Try.prog 54 #[x.val, .int .i64 k] w fun e w' => e = .returned (.int .i64 (k + (mkT n T : Nat))) ∧ TreeD n w' F x (markTr n k T) ∧ Chg F w w' := by
 cases n with
 | zero => exact ht.elim
 | succ n =>
 obtain ⟨yl, yp, yc, yk, yb⟩ := x
 have hme := mkT_parts n T
 rw [hme] at hk1 ⊢
 have BN : Hid (Below w.heap.size w (w.alloc (.cells #[.bool yl, yp, yc, yk, yb] 30))) := bel_new _ _
 have N1 := heap_alloc_new w (.cells #[.bool yl, yp, yc, yk, yb] 30)
 have ht1 := ht.below BN.out
 have LK : Hid (∀ u : World, Chg F (w.alloc (.cells #[.bool yl, yp, yc, yk, yb] 30)) u → ∀ j, u.cell? ⟨w.heap.size, j, none⟩ = #[Value.bool yl, yp, yc, yk, yb][j]?) := fun u hu j => cell_of_cells (row_chg N1 hu (fun h => by have := hF _ h; omega))
 have d1 := LK.out _ (Chg.refl _ _)
 generalize hW1 : w.alloc (.cells #[.bool yl, yp, yc, yk, yb] 30) = W1 at *
 have E1 : Hid (w.alloc (.cells #[.bool yl, yp, yc, yk, yb] 30) = W1) := hW1
 obtain ⟨t1, t2, t3, t4, t5, xs2, K2, u1, u2, u3, u4, u5⟩ := ht1
 simp only at t1 t2 t3 t4 t5 u2 u4
 have HP : Hid _ := markPairS_g 0 yp T.pairs k W1 t2 (by omega) (by omega) (by omega)
 have TT : Hid _ := And.intro t3 (And.intro t4 (And.intro t5 (And.intro u1 (And.intro u2 (And.intro u3 (And.intro u4 (And.intro u5 (And.intro t2 t1))))))))
 clear t1 t2 t3 t4 t5 u1 u2 u3 u4 u5 ht hW1 N1 hF hme
 show Calls Try.prog 54 #[.agg #[.bool yl, yp, yc, yk, yb], .int .i64 k] w _
 go_enter Try.func54, Try.ntmps54
 go_upto_region 1 with fail
 rw [E1.out]
 go_wp2_with fail
 refine Calls.mono HP.out ?_
 rintro e v1 ⟨rfl, p1, g1⟩
 obtain ⟨t3, t4, t5, u1, u2, u3, u4, u5, t2, t1⟩ := TT.out
 have G1 : Hid (Chg F W1 v1) := g1.mono (fun g' _ h => t5 g' (.inl h))
 have a3 := t3.chg g1 (fun g' hg' e => wrB_apart t3 t2 (by decide) hg' e)
 have a4 := t4.chg g1 (fun g' hg' e => wrB_apart t4 t2 (by decide) hg' e)
 have a2 := u2.chg g1 (fun g' hg' e => wrB_apart u2 t2 (by decide) hg' e)
 have a5 : ∀ i, i < xs2.length → TreeD n v1 (K2 i) (tvAt xs2 i) (T.kids.getD i noTr) := fun i hi => (u3 i hi).chg g1 (fun g' hg' e => (u4 i g' hi hg').2 (.inl e))
 clear d1
 have d1 := LK.out v1 G1.out
 have HI : Hid _ := markIntS_g 0 yc T.cuts (k + 2 * (T.pairs.length : Int)) v1 a3 (by omega) (by omega) (by omega)
 have T1 : Hid _ := And.intro p1 (And.intro a3 (And.intro a4 (And.intro a2 a5)))
 clear p1 g1 a2 a3 a4 a5 t1 t2 t3 t4 t5 u1 u2 u3 u4 u5 HP
 go_wp2_with fail
 refine Calls.mono HI.out ?_
 rintro e v2 ⟨rfl, p2, g2⟩
 obtain ⟨t3, t4, t5, u1, u2, u3, u4, u5, t2, t1⟩ := TT.out
 obtain ⟨p1, a3, a4, a2, a5⟩ := T1.out
 have G2 : Hid (Chg F W1 v2) := G1.out.trans (g2.mono (G := F) (fun g' _ h => t5 g' (.inr (.inl h)))) (fun _ _ h => h)
 have p1 := p1.chg g2 (fun g' hg' e => wrB_apart p1 a3 (by decide) hg' e)
 have a4 := a4.chg g2 (fun g' hg' e => wrB_apart a4 a3 (by decide) hg' e)
 have a2 := a2.chg g2 (fun g' hg' e => wrB_apart a2 a3 (by decide) hg' e)
 have a5 : ∀ i, i < xs2.length → TreeD n v2 (K2 i) (tvAt xs2 i) (T.kids.getD i noTr) := fun i hi => (a5 i hi).chg g2 (fun g' hg' e => (u4 i g' hi hg').2 (.inr (.inl e)))
 clear d1
 have d1 := LK.out v2 G2.out
 have HT : Hid _ := markDS_any n yk xs2 T.kids K2 (k + 2 * (T.pairs.length : Int) + (T.cuts.length : Int)) v2 u1 a2 a5 (fun i g' hi hg' e => (u4 i g' hi hg').2 (.inr (.inr (.inr e)))) u5 (by omega) (by omega)
 have T2 : Hid _ := And.intro p1 (And.intro p2 (And.intro a4 a2))
 clear p1 p2 g2 a2 a3 a4 a5 t1 t2 t3 t4 t5 u1 u2 u3 u4 u5 HI T1 G1
 go_wp2_with fail
 refine Calls.mono HT.out ?_
 rintro e v3 ⟨rfl, ⟨zs, z1, z2, z3⟩, g3⟩
 obtain ⟨t3, t4, t5, u1, u2, u3, u4, u5, t2, t1⟩ := TT.out
 obtain ⟨p1, p2, a4, a2⟩ := T2.out
 have G3 : Hid (Chg F W1 v3) := G2.out.trans (g3.mono (G := F) (fun g' _ h => by
  rcases h with h | ⟨i, hi, h⟩
  ·exact t5 g' (.inr (.inr (.inr h)))
  ·exact (u4 i g' hi h).1)) (fun _ _ h => h)
 have ne3 : ∀ (g' : Nat), (wrB yp g' ∨ wrB yc g' ∨ wrB yb g') → ¬ wrB yk g' → ¬ (wrB yk g' ∨ ∃ i, i < xs2.length ∧ K2 i g') := fun g' h hn e => by
  rcases e with e | ⟨i, hi, e⟩
  ·exact hn e
  ·exact (u4 i g' hi e).2 (by rcases h with h | h | h; exact .inl h; exact .inr (.inl h); exact .inr (.inr (.inl h)))
 have p1 := p1.chg g3 (fun g' hg' => ne3 g' (.inl hg') (wrB_apart p1 a2 (by decide) hg'))
 have p2 := p2.chg g3 (fun g' hg' => ne3 g' (.inr (.inl hg')) (wrB_apart p2 a2 (by decide) hg'))
 have a4 := a4.chg g3 (fun g' hg' => ne3 g' (.inr (.inr hg')) (wrB_apart a4 a2 (by decide) hg'))
 clear d1
 have d1 := LK.out v3 G3.out
 have HM : Hid _ := markMsgS_g 0 yb T.buf (k + 2 * (T.pairs.length : Int) + (T.cuts.length : Int) + (mkTs n T.kids : Nat)) v3 a4 (by omega) (by omega) (by omega)
 have T3 : Hid _ := And.intro p1 (And.intro p2 (And.intro a4 (And.intro z1 (And.intro z2 z3))))
 clear p1 p2 g3 a2 a4 z1 z2 z3 t1 t2 t3 t4 t5 u1 u2 u3 u4 u5 HT T2 G2 ne3
 go_wp2_with fail
 refine Calls.mono HM.out ?_
 rintro e v4 ⟨rfl, p4, g4⟩
 obtain ⟨t3, t4, t5, u1, u2, u3, u4, u5, t2, t1⟩ := TT.out
 obtain ⟨p1, p2, a4, z1, z2, z3⟩ := T3.out
 have G4 : Hid (Chg F W1 v4) := G3.out.trans (g4.mono (G := F) (fun g' _ h => t5 g' (.inr (.inr (.inl h))))) (fun _ _ h => h)
 have p1 := p1.chg g4 (fun g' hg' e => wrB_apart p1 a4 (by decide) hg' e)
 have p2 := p2.chg g4 (fun g' hg' e => wrB_apart p2 a4 (by decide) hg' e)
 have z2 := z2.chg g4 (fun g' hg' e => wrB_apart z2 a4 (by decide) hg' e)
 have z3 : ∀ i, i < xs2.length → TreeD n v4 (K2 i) (tvAt zs i) ((markTs n (k + 2 * (T.pairs.length : Int) + (T.cuts.length : Int)) T.kids).getD i noTr) := fun i hi => (z3 i hi).chg g4 (fun g' hg' e => (u4 i g' hi hg').2 (.inr (.inr (.inl e))))
 have TJ : TreeD (n + 1) v4 F ⟨yl, yp, yc, yk, yb⟩ (markTr (n + 1) k T) := by
  rw [markTr_succ]
  refine ⟨t1, ?_, ?_, ?_, t5, zs, K2, ?_, z2, ?_, ?_, ?_⟩
  ·show OwnE v4 0 _ 2 yp (marksP _ _).length (flatP (marksP _ _))
   rw [marksP_length]; exact p1
  ·show OwnE v4 0 _ 1 yc (marksI _ _).length (flatI (marksI _ _))
   rw [marksI_length]; exact p2
  ·show OwnE v4 0 _ 3 yb (marksM _ _).length (flatM (marksM _ _))
   rw [marksM_length]; exact p4
  ·show zs.length = (markTs _ _ _).length
   rw [markTs_length, z1, u1]
  ·exact fun i hi => z3 i (by omega)
  ·exact fun i g' hi => u4 i g' (by omega)
  ·exact fun i j' g' hij hj' => u5 i j' g' hij (by omega)
 have FIN : Hid _ := And.intro TJ ((Chg.of_below (F := F) BN.out).trans G4.out (fun _ _ h => h))
 clear p1 p2 p4 g4 a4 z1 z2 z3 t1 t2 t3 t4 t5 u1 u2 u3 u4 u5 HM T3 G3 G4 TT TJ LK d1
 go_wp2
 go_ret
 exact ⟨ret_int (by omega), FIN.out⟩
end
section
open Go.RowKit

theorem TreeD.off {b E s k : Nat} {v : Value} {ys : List Value} (h1 : E ≠ 151) (h2 : E ≠ 3) (h3 : E ≠ 78) (h4 : E ≠ 30) : ∀ {n : Nat} {w : World} {F : Nat → Prop} {x : TV} {T : Tr}, TreeD n w F x T → OwnE w b E s v k ys → TreeD n w (fun g => F g ∧ ¬ wrB v g) x T
 | 0, _, _, _, _, h, _ => h.elim
 | _ + 1, _, _, _, _, ⟨a1, a2, a3, a4, a5, xs, K, a6, a7, a8, a9, a10⟩, o => by
  refine ⟨a1, a2, a3, a4, fun g hg => ⟨a5 g hg, fun hv => ?_⟩, xs, fun i g => K i g ∧ ¬ wrB v g, a6, a7, fun i hi => (a8 i hi).off h1 h2 h3 h4 o, fun i g hi hg => ⟨⟨(a9 i g hi hg.1).1, hg.2⟩, (a9 i g hi hg.1).2⟩, fun i j g hij hj hg hg' => a10 i j g hij hj hg.1 hg'.1⟩
  rcases hg with hg | hg | hg | hg
  ·exact OwnE.apart o a2 h1 g hv hg
  ·exact OwnE.apart o a3 h2 g hv hg
  ·exact OwnE.apart o a4 h3 g hv hg
  ·exact OwnE.apart o a7 h4 g hv hg

theorem markMachine_d (n : Nat) (m : MacV) (T : Tr) (l : DL) (F : Nat → Prop) (k : Int) (w : World) (h : MacD n w F m T l) (hF : ∀ g, F g → g < w.heap.size) (hk0 : 0 ≤ k) (hk1 : k + (mkT n T : Nat) + 4 * l.length ≤ 67108864) :
  Calls Try.prog 28 #[m.val, .int .i64 k] w fun e w' => e = .returned (.int .i64 (k + (mkT n T : Nat) + 4 * l.length)) ∧ MacD n w' F m (markTr n k T) (marksD (k + (mkT n T : Nat)) l.length) ∧ Chg F w w' := by
 obtain ⟨⟨lf, p, c, k0, b⟩, v⟩ := m
 have T0 : Hid (TreeD n w (fun g => F g ∧ ¬ wrB v g) ⟨lf, p, c, k0, b⟩ T) := h.1.off (by decide) (by decide) (by decide) (by decide) h.2.1
 have C1 : Hid (∀ u, Below w.heap.size w u → Calls Try.prog 54 #[.agg #[.bool lf, p, c, k0, b], .int .i64 k] u fun e w' => e = .returned (.int .i64 (k + (mkT n T : Nat))) ∧ TreeD n w' (fun g => F g ∧ ¬ wrB v g) ⟨lf, p, c, k0, b⟩ (markTr n k T) ∧ Chg (fun g => F g ∧ ¬ wrB v g) u w') := fun u hu => markTree_d n ⟨lf, p, c, k0, b⟩ T (fun g => F g ∧ ¬ wrB v g) k u (T0.out.below hu) (fun g hg => Nat.lt_of_lt_of_le (hF g hg.1) hu.size) hk0 (by omega)
 have C2 : Hid (∀ u, OwnE u 0 109 4 v l.length (flatD l) → Calls Try.prog 55 #[v, .int .i64 (k + (mkT n T : Nat))] u fun e w' => e = .returned (.int .i64 (k + (mkT n T : Nat) + 4 * l.length)) ∧ OwnE w' 0 109 4 v l.length (flatD (marksD (k + (mkT n T : Nat)) l.length)) ∧ Chg (fun g => wrB v g) u w') := fun u hu => markDoneS_g 0 v l _ u hu (by omega) (by omega) (by omega)
 have OF : Hid (∀ g, wrB v g → F g) := h.2.2
 have FF : Hid (∀ g, F g → g < w.heap.size) := hF
 have O1 : Hid (∀ u, Below w.heap.size w u → OwnE u 0 109 4 v l.length (flatD l)) := fun u hu => h.2.1.below hu
 have ML : Hid ((marksD (k + (mkT n T : Nat)) l.length).length = l.length) := marksD_length _ _
 have B1 : Hid (Below w.heap.size w (w.alloc (.cells #[.bool lf, p, c, k0, b, v] 33))) := bel_nw _ _
 have N1 := hid9c (MBox.start 33 w #[.bool lf, p, c, k0, b, v])
 have CH : Hid (Chg F w (w.alloc (.cells #[.bool lf, p, c, k0, b, v] 33))) := (Chg.refl _ _).alloc _
 have c1 := N1.out.cells
 clear h hF hk0 hk1 T0
 generalize marksD (k + (mkT n T : Nat)) l.length = l2 at *
 generalize k + ((mkT n T : Nat) : Int) = k1 at *
 generalize k1 + 4 * ((l.length : Nat) : Int) = k2 at *
 generalize markTr n k T = T2 at *
 show Calls Try.prog 28 #[.agg #[.bool lf, p, c, k0, b, v], .int .i64 k] w _
 go_enter Try.func28, Try.ntmps28
 go_wp2_with fail
 generalize w.alloc (.cells #[.bool lf, p, c, k0, b, v] 33) = W at *
 refine (C1.out _ B1.out).mono ?_
 rintro e w1 ⟨rfl, t1, g1⟩
 have O2 := hid9c ((O1.out _ B1.out).chg g1 (fun g hg hf => hf.2 hg))
 have T1 := hid9c t1
 replace CH := hid9c (CH.out.trans g1 (fun g _ hg => hg.1))
 replace N1 := hid9c (row_chg N1.out g1 (fun hf => absurd (FF.out _ hf.1) (Nat.lt_irrefl _)))
 clear t1 g1 c1
 have c1 := fun j => cell_of_cells (j := j) N1.out
 go_wp2_with fail
 refine (C2.out _ O2.out).mono ?_
 rintro e w2 ⟨rfl, o2, g2⟩
 have FIN : Hid (MacD n w2 F ⟨⟨lf, p, c, k0, b⟩, v⟩ T2 l2 ∧ Chg F w w2) := ⟨⟨(T1.out.chg g2 (fun g hg => hg.2)).mono (fun g hg => hg.1), by rw [ML.out]; exact o2, OF.out⟩, CH.out.trans g2 (fun g _ hg => OF.out g hg)⟩
 clear o2 g2 c1
 go_wp2
 go_ret
 exact ⟨rfl, FIN.out⟩

theorem heldMachine_m (n : Nat) (m : MacV) (T : Tr) (j : Nat) (k : Int) (w : World) (h : MacAt n w m (markTr n k T) (marksD (k + (mkT n T : Nat)) j)) (hk0 : 0 ≤ k) (hk1 : k + (mkT n T : Nat) + 4 * j ≤ 67108864) :
  Calls Try.prog 32 #[m.val, .int .i64 k] w fun e w' => e = .returned (.int .i64 (k + (mkT n T : Nat) + 4 * j)) ∧ Below w.heap.size w w' := by
 obtain ⟨⟨lf, p, c, k0, b⟩, v⟩ := m
 have RW : Hid (∀ u, Below w.heap.size w u → Row u v j (flatD (marksD (k + (mkT n T : Nat)) j))) := fun u hu => by
  have := h.2.below hu
  rw [marksD_length] at this
  exact this
 have C1 : Hid (∀ u, Below w.heap.size w u → Calls Try.prog 57 #[.agg #[.bool lf, p, c, k0, b], .int .i64 k] u fun e w' => e = .returned (.int .i64 (k + (mkT n T : Nat))) ∧ Below u.heap.size u w') := fun u hu => heldTree_m n ⟨lf, p, c, k0, b⟩ T k u (h.1.below hu) hk0 (by omega)
 have C2 : Hid (∀ u, Below w.heap.size w u → Calls Try.prog 58 #[v, .int .i64 (k + (mkT n T : Nat))] u fun e w' => e = .returned (.int .i64 (k + (mkT n T : Nat) + 4 * j)) ∧ w' = u) := fun u hu => heldDoneS_any v j _ u (RW.out u hu) (by omega) (by omega) (by omega)
 have hp1 : ¬ (k + ((mkT n T : Nat) : Int) < 0) := by omega
 have hp2 : ¬ (k + ((mkT n T : Nat) : Int) + 4 * (j : Int) < 0) := by omega
 have B1 : Hid (Below w.heap.size w (w.alloc (.cells #[.bool lf, p, c, k0, b, v] 33))) := bel_nw _ _
 have N1 := hid9c (MBox.start 33 w #[.bool lf, p, c, k0, b, v])
 have c1 := N1.out.cells
 clear h hk0 hk1 RW
 generalize k + ((mkT n T : Nat) : Int) = k1 at *
 generalize k1 + 4 * (j : Int) = k2 at *
 show Calls Try.prog 32 #[.agg #[.bool lf, p, c, k0, b, v], .int .i64 k] w _
 go_enter Try.func32, Try.ntmps32
 go_wp2_with fail
 generalize w.alloc (.cells #[.bool lf, p, c, k0, b, v] 33) = W at *
 refine (C1.out _ B1.out).mono ?_
 rintro e w1 ⟨rfl, b1⟩
 replace B1 := hid9c (Below.and B1.out b1)
 replace N1 := hid9c (N1.out.step b1)
 clear b1 c1
 have c1 := N1.out.cells
 go_wp2_with fail
 refine (C2.out _ B1.out).mono ?_
 rintro e w2 ⟨rfl, hw2⟩
 subst hw2
 go_wp2
 go_ret
 exact ⟨rfl, B1.out⟩
end
end Go.Proofs.Ytmdajbbpigbdcaa
