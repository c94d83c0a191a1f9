/-
  One struct less that waits, its kids behind it: what is to come stays.
  How much is still to be copied of what waits.
  The state of the program's copyOfTree between two steps, and what each step leaves.
  The program's copyOfTree at the head of a round, and at the next one.
-/
import Derived.Test.YtkcaelfkcepdkaaGreatOfSend19
namespace Go.Proofs.YtkcaelfkcepdkaaGreat
set_option maxRecDepth 100000
set_option maxHeartbeats 8000000
section
open Go.RowKit

theorem tvAt_left (l m : List TV) (j : Nat) (h : j < l.length) : tvAt (l ++ m) j = tvAt l j := by simp [tvAt, List.getD, List.getElem?_append_left h]
theorem tvAt_take (l : List TV) (m j : Nat) (h : j < m) : tvAt (l.take m) j = tvAt l j := by simp [tvAt, List.getD, h]
theorem tvAt_drop (l : List TV) (m j : Nat) : tvAt (l.drop m) j = tvAt l (m + j) := by simp [tvAt, List.getD, List.getElem?_drop]
theorem tvAt_end (l : List TV) (y : TV) : tvAt (l ++ [y]) l.length = y := by simp [tvAt, List.getD]

theorem Kont.first {w u : World} (p : Pd) (Fin : World → Prop) (hw : w.heap.size ≤ u.heap.size) (hF : ∀ u' y G, Holds u' p.b p.o y → TreeD p.n u' G y p.T → (∀ g, G g → w.heap.size ≤ g) → Fin u') : Kont u [p] Fin := by
 intro u' ys G hl ho hh ht hb hd
 exact hF u' (tvAt ys 0) (G 0) (hh 0 p rfl) (ht 0 p rfl) (fun g hg => Nat.le_trans hw (hb 0 g (by simp) hg))
theorem Kont.last {u : World} {Fin : World → Prop} (h : Kont u [] Fin) : Fin u :=
 h u [] (fun _ _ => False) rfl (Only.refl _ _) (fun j p hj => by simp at hj) (fun j p hj => by simp at hj) (fun j g hj => by simp at hj) (fun i j g _ hj => by simp at hj)

theorem Kont.step {u u1 : World} {qs : List Pd} {p : Pd} {n : Nat} {Fin : World → Prop} {xs : List TV} {KF : Nat → Nat → Prop} {vp vc vk vb : Value} {K : Nat} (h : Kont u (qs ++ [p]) Fin) (hpn : p.n = n + 1)
  (ho : Only [p] u u1) (hq : ∀ q ∈ qs, q.b < u.heap.size) (hpb : p.b < u.heap.size) (hap : ∀ q ∈ qs, q.b = p.b → q.o + 5 ≤ p.o ∨ p.o + 5 ≤ q.o)
  (hy : Holds u1 p.b p.o ⟨p.x.lf, vp, vc, vk, vb⟩) (hlf : p.x.lf = p.T.leaf) (o1 : OwnE u1 u.heap.size 157 2 vp p.T.pairs.length (flatP p.T.pairs)) (o2 : OwnE u1 u.heap.size 3 1 vc p.T.cuts.length (flatI p.T.cuts)) (o3 : OwnE u1 u.heap.size 115 3 vb p.T.buf.length (flatM p.T.buf))
  (hx : xs.length = p.T.kids.length) (o4 : OwnE u1 u.heap.size 69 5 vk xs.length (flatT xs)) (hK : 0 < xs.length → ∃ Q, vk = .slice (some ⟨K, 0, none⟩) xs.length Q) :
  Kont u1 (qs ++ kidPd K n xs p.T.kids KF) Fin := by
 intro u' ys G hl hon hh ht hb hd
 have hl' : ys.length = qs.length + xs.length := by rw [hl, List.length_append, kidPd_length]
 have hlp : (qs ++ kidPd K n xs p.T.kids KF).length = qs.length + xs.length := by rw [List.length_append, kidPd_length]
 rw [hlp] at hb hd
 have hKw : 0 < xs.length → wrB vk K := fun hn => by
  obtain ⟨g, q, hv, hq, _⟩ := o4.pos hn
  obtain ⟨Q, hv2⟩ := hK hn
  rw [hv] at hv2
  have : g = K := by simpa [Value.ownBlock] using (congrArg Value.ownBlock hv2)
  exact ⟨_, _, this ▸ hv, hq⟩
 have hKb : ∀ q ∈ kidPd K n xs p.T.kids KF, wrB vk q.b := fun q hq => by
  obtain ⟨i, hi, rfl⟩ := kidPd_mem hq
  exact hKw (by omega)
 have own : ∀ g, wrB vp g ∨ wrB vc g ∨ wrB vb g ∨ wrB vk g → u.heap.size ≤ g ∧ g < u1.heap.size := fun g hg => by
  rcases hg with hg | hg | hg | hg
  ·exact o1.lt g hg
  ·exact o2.lt g hg
  ·exact o3.lt g hg
  ·exact o4.lt g hg
 have hqown : ∀ q ∈ qs, ¬ (wrB vp q.b ∨ wrB vc q.b ∨ wrB vb q.b ∨ wrB vk q.b) := fun q hq' hw => by
  have := (own _ hw).1
  have := hq q hq'
  omega
 have a1 : ∀ q ∈ qs ++ kidPd K n xs p.T.kids KF, ¬ wrB vp q.b := fun q hq' hw => by
  rcases List.mem_append.1 hq' with k | k
  ·exact hqown q k (.inl hw)
  ·exact o1.apart o4 (by decide) _ hw (hKb q k)
 have a2 : ∀ q ∈ qs ++ kidPd K n xs p.T.kids KF, ¬ wrB vc q.b := fun q hq' hw => by
  rcases List.mem_append.1 hq' with k | k
  ·exact hqown q k (.inr (.inl hw))
  ·exact o2.apart o4 (by decide) _ hw (hKb q k)
 have a3 : ∀ q ∈ qs ++ kidPd K n xs p.T.kids KF, ¬ wrB vb q.b := fun q hq' hw => by
  rcases List.mem_append.1 hq' with k | k
  ·exact hqown q k (.inr (.inr (.inl hw)))
  ·exact o3.apart o4 (by decide) _ hw (hKb q k)
 refine h u' (ys.take qs.length ++ [⟨p.x.lf, vp, vc, vk, vb⟩]) (fun j g => (j < qs.length ∧ G j g) ∨ (qs.length ≤ j ∧ ((wrB vp g ∨ wrB vc g ∨ wrB vb g ∨ wrB vk g) ∨ ∃ i, i < xs.length ∧ G (qs.length + i) g))) ?_ ?_ ?_ ?_ ?_ ?_
 ·simp; omega
 ·refine ho.trans hon (fun g i hg hn => ⟨fun ⟨q, hq', r⟩ => hn ⟨q, List.mem_append.2 (.inr hq'), r⟩, fun ⟨q, hq', e, r⟩ => ?_⟩)
  rcases List.mem_append.1 hq' with k | k
  ·exact hn ⟨q, List.mem_append.2 (.inl k), e, r⟩
  ·have := (own _ (.inr (.inr (.inr (hKb q k))))).1
   omega
 ·intro j q hj
  rcases Nat.lt_trichotomy j qs.length with hlt | heq | hgt
  ·rw [List.getElem?_append_left hlt] at hj
   rw [tvAt_left _ _ _ (by simp; omega), tvAt_take _ _ _ hlt]
   exact hh j q (by rw [List.getElem?_append_left hlt]; exact hj)
  ·subst heq
   simp at hj
   subst hj
   have e := tvAt_end (ys.take qs.length) ⟨p.x.lf, vp, vc, vk, vb⟩
   rw [List.length_take, Nat.min_eq_left (by omega)] at e
   rw [e]
   refine hy.kept hon (fun j hj ⟨q, hq', e, r1, r2⟩ => ?_)
   rcases List.mem_append.1 hq' with k | k
   ·rcases hap q k e with h | h <;> omega
   ·have := (own _ (.inr (.inr (.inr (hKb q k))))).1
    omega
  ·rw [List.getElem?_eq_none (by simp; omega)] at hj
   simp at hj
 ·intro j q hj
  rcases Nat.lt_trichotomy j qs.length with hlt | heq | hgt
  ·rw [List.getElem?_append_left hlt] at hj
   rw [tvAt_left _ _ _ (by simp; omega), tvAt_take _ _ _ hlt]
   exact (ht j q (by rw [List.getElem?_append_left hlt]; exact hj)).mono (fun g hg => .inl ⟨hlt, hg⟩)
  ·subst heq
   simp at hj
   subst hj
   have e := tvAt_end (ys.take qs.length) ⟨p.x.lf, vp, vc, vk, vb⟩
   rw [List.length_take, Nat.min_eq_left (by omega)] at e
   rw [e, hpn]
   have hdl : (ys.drop qs.length).length = xs.length := by rw [List.length_drop]; omega
   have kat : ∀ i, i < xs.length → (qs ++ kidPd K n xs p.T.kids KF)[qs.length + i]? = some ⟨K, i * 5, tvAt xs i, p.T.kids.getD i noTr, n, KF i⟩ := fun i hi => by
    rw [List.getElem?_append_right (by omega), Nat.add_sub_cancel_left]
    exact kidPd_at K n xs p.T.kids KF i hi
   refine ⟨hlf, (o1.only hon (.inl rfl) a1).mono (Nat.zero_le _), (o2.only hon (.inr (.inl rfl)) a2).mono (Nat.zero_le _), (o3.only hon (.inr (.inr (.inl rfl))) a3).mono (Nat.zero_le _), fun g hg => .inr ⟨Nat.le_refl _, .inl hg⟩, ys.drop qs.length, fun i => G (qs.length + i), hdl.trans hx, ?_, fun i hi => ?_, fun i g hi hg => ⟨.inr ⟨Nat.le_refl _, .inr ⟨i, by omega, hg⟩⟩, fun hw => ?_⟩, fun i j g hij hj hg => hd (qs.length + i) (qs.length + j) g (by omega) (by omega) hg⟩
   ·rcases Nat.eq_zero_or_pos xs.length with h0 | h0
    ·have := (o4.only hon (.inr (.inr (.inr rfl))) (fun q hq' hw => by
      rcases List.mem_append.1 hq' with k | k
      ·exact hqown q k (.inr (.inr (.inr hw)))
      ·obtain ⟨i, hi, _⟩ := kidPd_mem k
       omega)).mono (Nat.zero_le _)
     have e1 : xs = [] := List.length_eq_zero_iff.1 h0
     have e2 : ys.drop qs.length = [] := List.length_eq_zero_iff.1 (by omega)
     rw [e2]
     rw [e1] at this
     exact this
    ·obtain ⟨Q, rfl⟩ := hK h0
     have := kids_row (ys := ys.drop qs.length) (o4.mono (Nat.zero_le _)) h0 hon hdl (fun i hi => by
      rw [tvAt_drop]
      exact hh _ _ (kat i hi))
     rw [hdl] at this ⊢
     exact this
   ·rw [tvAt_drop]
    exact ht _ _ (kat i (by omega))
   ·have := hb (qs.length + i) g (by omega) hg
    have := (own g hw).2
    omega
  ·rw [List.getElem?_eq_none (by simp; omega)] at hj
   simp at hj
 ·rintro j g hj (⟨hlt, hg⟩ | ⟨_, hg | ⟨i, hi, hg⟩⟩)
  ·exact Nat.le_trans ho.1 (hb j g (by omega) hg)
  ·exact (own g hg).1
  ·exact Nat.le_trans ho.1 (hb _ g (by omega) hg)
 ·rintro i j g hij hj (⟨hlt, hg⟩ | ⟨hle, _⟩) (⟨hlt2, hg2⟩ | ⟨hle2, hg2 | ⟨i2, hi2, hg2⟩⟩)
  ·exact hd i j g hij (by omega) hg hg2
  ·have := hb i g (by omega) hg
   have := (own g hg2).2
   omega
  ·exact hd i (qs.length + i2) g (by omega) (by omega) hg hg2
  ·omega
  ·simp at hj; omega
  ·simp at hj; omega
end
section
open Go.RowKit

def kz : Nat → Tr → Nat
 | 0, _ => 0
 | n + 1, T => T.kids.length + (T.kids.map (sizeT n)).sum
def potP (ps : List Pd) : Nat := (ps.map fun p => kz p.n p.T).sum
theorem sizeT_kz (n : Nat) (T : Tr) : sizeT (n + 1) T = T.pairs.length + T.cuts.length + T.buf.length + kz (n + 1) T := by
 show T.pairs.length + (T.cuts.length + (T.kids.length + (T.kids.map (sizeT n)).sum + T.buf.length)) = T.pairs.length + T.cuts.length + T.buf.length + (T.kids.length + (T.kids.map (sizeT n)).sum)
 omega
theorem kz_le (n : Nat) (T : Tr) : kz n T ≤ sizeT n T := by
 cases n with
 | zero => exact Nat.le_refl _
 | succ n => rw [sizeT_kz]; omega
theorem potP_append (ps qs : List Pd) : potP (ps ++ qs) = potP ps + potP qs := by simp [potP]
theorem potP_one (p : Pd) : potP [p] = kz p.n p.T := by simp [potP]
theorem RowF.lenEq {w : World} {F : Nat → Prop} {v : Value} {n : Nat} {xs : List Value} (h : RowF w F v n xs) : lenV v = n := by
 obtain ⟨a, b, off, cap, rfl, _⟩ := h
 rfl
theorem TreeF.wEq {n : Nat} {w : World} {F : Nat → Prop} {x : TV} {T : Tr} (h : TreeF n w F x T) : wTV x + kz n T = 1 + sizeT n T := by
 cases n with
 | zero => exact h.elim
 | succ n =>
  obtain ⟨h1, h2, h3, h4, xs, h5, h6, h7⟩ := h
  rw [sizeT_kz]
  unfold wTV
  rw [h2.lenEq, h3.lenEq, h4.lenEq]
  omega
theorem TreeF.slices {n : Nat} {w : World} {F : Nat → Prop} {x : TV} {T : Tr} (h : TreeF n w F x T) : Slices x := by
 obtain ⟨a1, a2, a3, a4, c1, c2, c3, c4, hx⟩ := h.treeAt.shape
 subst hx
 exact ⟨a1, a2, a3, a4, _, _, _, _, c1, c2, c3, c4, rfl⟩
theorem kids_to {d : Bool} {n : Nat} {w : World} {K : Nat → Nat → Prop} {xs : List TV} {ts : List Tr} (hx : xs.length = ts.length) (h : ∀ i, i < xs.length → Src d n w (K i) (tvAt xs i) (ts.getD i noTr)) : ∀ k, k ≤ xs.length → wsum xs k + ((List.range k).map fun i => kz n (ts.getD i noTr)).sum = k + sumTo n ts k
 | 0, _ => by simp [wsum, sumTo]
 | k + 1, hk => by
  have h1 := kids_to hx h k (by omega)
  have h2 := (h k (by omega)).2.wEq
  rw [wsum_succ xs k (by omega), sumTo_succ n ts k (by omega), List.range_succ, List.map_append, List.sum_append]
  have e : tvAt xs k = xs[k] := by simp [tvAt, List.getD, (by omega : k < xs.length)]
  rw [e] at h2
  simp only [List.map_cons, List.map_nil, List.sum_cons, List.sum_nil]
  omega
theorem kz_kids {d : Bool} {n K0 : Nat} {w : World} {K : Nat → Nat → Prop} {xs : List TV} {T : Tr} (hx : xs.length = T.kids.length) (h : ∀ i, i < xs.length → Src d n w (K i) (tvAt xs i) (T.kids.getD i noTr)) : wsum xs xs.length + potP (kidPd K0 n xs T.kids K) = kz (n + 1) T := by
 have h1 := kids_to hx h xs.length (Nat.le_refl _)
 have e : potP (kidPd K0 n xs T.kids K) = ((List.range xs.length).map fun i => kz n (T.kids.getD i noTr)).sum := by
  simp [potP, kidPd, Function.comp_def]
 rw [e, h1, hx, sumTo_all]
 rfl
theorem wsum_ge (xs : List TV) : ∀ k, k ≤ xs.length → k ≤ wsum xs k
 | 0, _ => Nat.zero_le _
 | k + 1, h => by
  rw [wsum_succ xs k (by omega)]
  have := wsum_ge xs k (by omega)
  have : 1 ≤ wTV xs[k] := by unfold wTV; omega
  omega
end
section
open Go.RowKit

theorem Holds.cells {u : World} {b o : Nat} {x : TV} (h : Holds u b o x) : u.cell? ⟨b, o, none⟩ = some (.bool x.lf) ∧ u.cell? ⟨b, o + 1, none⟩ = some x.p ∧ u.cell? ⟨b, o + 2, none⟩ = some x.c ∧ u.cell? ⟨b, o + 3, none⟩ = some x.k ∧ u.cell? ⟨b, o + 4, none⟩ = some x.b ∧ ∀ i, u.frozen? ⟨b, i, none⟩ = false := by
 obtain ⟨c, h0, h1, h2, h3, h4, h5⟩ := h
 exact ⟨(cell_of_cells h0).trans h1, (cell_of_cells h0).trans h2, (cell_of_cells h0).trans h3, (cell_of_cells h0).trans h4, (cell_of_cells h0).trans h5, fun i => frozen_of_cells h0⟩
theorem Holds.set {u : World} {b o : Nat} {x y : TV} (h : Holds u b o x) (j : Nat) (v : Value) (hy : (j = 1 ∧ y = { x with p := v }) ∨ (j = 2 ∧ y = { x with c := v }) ∨ (j = 3 ∧ y = { x with k := v }) ∨ (j = 4 ∧ y = { x with b := v })) : Holds (u.setCell ⟨b, o + j, none⟩ v) b o y := by
 obtain ⟨c, h0, h1, h2, h3, h4, h5⟩ := h
 have hs := heap_setCell_same u b (o + j) _ 69 v h0
 have k1 : o + 1 < c.size := (Array.getElem?_eq_some_iff.1 h2).1
 have k2 : o + 2 < c.size := (Array.getElem?_eq_some_iff.1 h3).1
 have k3 : o + 3 < c.size := (Array.getElem?_eq_some_iff.1 h4).1
 have k4 : o + 4 < c.size := (Array.getElem?_eq_some_iff.1 h5).1
 refine ⟨_, hs, ?_⟩
 simp only [Array.getElem?_setIfInBounds]
 rcases hy with ⟨rfl, rfl⟩ | ⟨rfl, rfl⟩ | ⟨rfl, rfl⟩ | ⟨rfl, rfl⟩ <;> simp_all
theorem OwnE.pop {w : World} {base e g m cap : Nat} {xs : List Value} {y : Value} (h : OwnE w base e 1 (.slice (some ⟨g, 0, none⟩) (m + 1) cap) (m + 1) (xs ++ [y])) (hl : xs.length = m) : OwnE w base e 1 (.slice (some ⟨g, 0, none⟩) m cap) m xs ∧ w.cell? ⟨g, m, none⟩ = some y ∧ m < cap := by
 have h : w.ownsRow base e 1 (.slice (some ⟨g, 0, none⟩) (m + 1) cap) (m + 1) (xs ++ [y]) := by
  rcases h with h | ⟨h0, _⟩
  ·exact h
  ·omega
 obtain ⟨_, ⟨h, _⟩ | ⟨g', cap', cur, hv, hg, hh0, hnc, hcap, hsz, htake⟩⟩ := h
 ·simp at h
 simp at hv
 obtain ⟨rfl, rfl⟩ := hv
 refine ⟨.inl ⟨by omega, .inr ⟨g, cap, cur, rfl, hg, hh0, by omega, hcap, hsz, ?_⟩⟩, ?_, by omega⟩
 ·have := congrArg (List.take m) htake
  rw [List.take_take] at this
  rw [Nat.mul_one] at this ⊢
  rw [Nat.min_eq_left (by omega)] at this
  rw [this]
  simp [hl]
 ·rw [cell_of_cells hh0]
  have := congrArg (fun l => l[m]?) htake
  simp only [List.getElem?_take] at this
  rw [if_pos (by omega)] at this
  rw [← Array.getElem?_toList, this, ← hl]
  simp
structure Mid (w wr u : World) (C M : Nat) (p : Pd) (y : TV) (vl : Value) (L : List Value) (cp : Nat) (V : Nat → Prop) : Prop where
 bx : BoxC u C #[.map (some M), vl, .int .i64 (cp : Nat)]
 md : MadeAt u M V
 lf : OwnE u 0 194 1 vl L.length L
 lo : ∀ g, wrB vl g → w.heap.size ≤ g
 ho : Holds u p.b p.o y
 on : Only [p] wr u
 bw : Below w.heap.size w u
 hC : w.heap.size ≤ C
 hM : w.heap.size ≤ M
 hv : ∀ g, V g → g < w.heap.size
 hp : w.heap.size ≤ p.b

theorem Mid.below {w wr u u' : World} {C M : Nat} {p : Pd} {y : TV} {vl : Value} {L : List Value} {cp : Nat} {V : Nat → Prop} (h : Mid w wr u C M p y vl L cp V) (hb : Below u.heap.size u u') : Mid w wr u' C M p y vl L cp V :=
 ⟨h.bx.step hb, h.md.step hb, h.lf.below hb, h.lo, h.ho.kept (ps := []) (Only.of_below hb) (fun j _ ⟨q, hq, _⟩ => by cases hq), h.on.trans (Only.of_below (ps := [p]) hb) (fun _ _ _ hn => ⟨hn, hn⟩), h.bw.trans (hb.mono h.bw.size), h.hC, h.hM, h.hv, h.hp⟩
theorem Mid.set {w wr u : World} {C M : Nat} {p : Pd} {x y : TV} {vl : Value} {L : List Value} {cp : Nat} {V : Nat → Prop} (h : Mid w wr u C M p x vl L cp V) (j : Nat) (v : Value) (hy : (j = 1 ∧ y = { x with p := v }) ∨ (j = 2 ∧ y = { x with c := v }) ∨ (j = 3 ∧ y = { x with k := v }) ∨ (j = 4 ∧ y = { x with b := v })) : Mid w wr (u.setCell ⟨p.b, p.o + j, none⟩ v) C M p y vl L cp V := by
 obtain ⟨c, h0, _⟩ := h.ho
 have hCp : ¬ C = p.b := fun e => by
  have := h.bx
  unfold BoxC at this
  rw [e, h0] at this
  simp at this
 refine ⟨h.bx.chg (chg_set1 u p.b _ v) hCp, h.md.set ⟨c, _, h0⟩ v, h.lf.chg (chg_set1 u p.b _ v) (fun g hg e => ?_), h.lo, h.ho.set j v hy, h.on.trans (Only.set h0 j (by rcases hy with h | h | h | h <;> omega) v) (fun _ _ _ hn => ⟨hn, hn⟩), h.bw.setCell (p := ⟨p.b, p.o + j, none⟩) h.hp v, h.hC, h.hM, h.hv, h.hp⟩
 obtain ⟨cur, hc⟩ := h.lf.block g hg
 rw [e, h0] at hc
 simp at hc
theorem Mid.own {w wr u : World} {C M : Nat} {p : Pd} {x : TV} {vl : Value} {L : List Value} {cp : Nat} {V : Nat → Prop} (_h : Mid w wr u C M p x vl L cp V) (hp : p.b < wr.heap.size) {e size n : Nat} {v : Value} {xs : List Value} (ho : OwnE u wr.heap.size e size v n xs) (i : Nat) (v2 : Value) : OwnE (u.setCell ⟨p.b, i, none⟩ v2) wr.heap.size e size v n xs :=
 ho.chg (chg_set1 u p.b i v2) (fun g hg e => by have := (ho.lt g hg).1; omega)
theorem Mid.kids {w wr u u' : World} {C M : Nat} {p : Pd} {y : TV} {vl vl' : Value} {L L' : List Value} {cp cp' : Nat} {V V' : Nat → Prop} (h : Mid w wr u C M p y vl L cp V) (hc : Chg (fun g => g = C ∨ g = M ∨ wrB vl g) u u') (hb : BoxC u' C #[.map (some M), vl', .int .i64 (cp' : Nat)]) (hm : MadeAt u' M V') (hl : OwnE u' 0 194 1 vl' L'.length L') (hlo : ∀ g, wrB vl' g → wrB vl g ∨ u.heap.size ≤ g) (hv : ∀ g, V' g → g < w.heap.size) : Mid w wr u' C M p y vl' L' cp' V' := by
 have hT : ∀ g c t, (g = C ∨ g = M ∨ wrB vl g) → TreeTy t → ¬ u.heap[g]? = some (.cells c t (0, 0)) := by
  intro g c t hg ht hh
  rcases hg with rfl | rfl | hg
  ·have := h.bx
   unfold BoxC at this
   rw [hh] at this
   rcases ht with rfl | rfl | rfl | rfl <;> simp at this
  ·obtain ⟨es, ck, h1, _⟩ := h.md
   rw [hh] at h1
   simp at h1
  ·obtain ⟨cur, h1⟩ := h.lf.block g hg
   rw [hh] at h1
   rcases ht with rfl | rfl | rfl | rfl <;> simp at h1
 have ho : Only ([] : List Pd) u u' := Only.of_chg hc hT
 refine ⟨hb, hm, hl, fun g hg => ?_, h.ho.kept ho (fun j _ ⟨q, hq, _⟩ => by cases hq), h.on.trans ho (fun _ _ _ hn => ⟨hn, fun ⟨q, hq, _⟩ => by cases hq⟩), h.bw.trans (hc.below (fun g _ hg => ?_) h.bw.size), h.hC, h.hM, hv, h.hp⟩
 ·rcases hlo g hg with h1 | h1
  ·exact h.lo g h1
  ·exact Nat.le_trans h.bw.size h1
 ·rcases hg with rfl | rfl | hg
  ·exact h.hC
  ·exact h.hM
  ·exact h.lo g hg
theorem Mid.ownKids {w wr u u' : World} {C M : Nat} {p : Pd} {x : TV} {vl : Value} {L : List Value} {cp : Nat} {V : Nat → Prop} (h : Mid w wr u C M p x vl L cp V) (hc : Chg (fun g => g = C ∨ g = M ∨ wrB vl g) u u') {e size n : Nat} {v : Value} {xs : List Value} (ho : OwnE u wr.heap.size e size v n xs) (he : TreeTy e) : OwnE u' wr.heap.size e size v n xs := by
 refine ho.chg hc (fun g hg hh => ?_)
 obtain ⟨cur, h1⟩ := ho.block g hg
 rcases hh with rfl | rfl | hh
 ·have := h.bx
  unfold BoxC at this
  rw [h1] at this
  rcases he with rfl | rfl | rfl | rfl <;> simp at this
 ·obtain ⟨es, ck, h2, _⟩ := h.md
  rw [h1] at h2
  simp at h2
 ·obtain ⟨cur2, h2⟩ := h.lf.block g hh
  rw [h1] at h2
  rcases he with rfl | rfl | rfl | rfl <;> simp at h2
end
section
open Go.RowKit

structure Ci (d : Bool) (S : Nat) (w wr : World) (C M : Nat) (ps : List Pd) (vl : Value) (cp : Nat) (V : Nat → Prop) (Fin : World → Prop) : Prop where
 bx : BoxC wr C #[.map (some M), vl, .int .i64 (cp : Nat)]
 md : MadeAt wr M V
 lf : OwnE wr 0 194 1 vl ps.length (ps.map Pd.ptr)
 lo : ∀ g, wrB vl g → w.heap.size ≤ g
 bw : Below w.heap.size w wr
 hC : w.heap.size ≤ C
 hM : w.heap.size ≤ M
 hv : ∀ g, V g → g < w.heap.size
 ho : ∀ p ∈ ps, Holds wr p.b p.o p.x
 hp : ∀ p ∈ ps, w.heap.size ≤ p.b
 src : ∀ p ∈ ps, Src d p.n w p.F p.x p.T
 apt : ps.Pairwise fun p q => p.b = q.b → p.o + 5 ≤ q.o ∨ q.o + 5 ≤ p.o
 dis : d = true → (ps.Pairwise fun p q => ∀ g, p.F g → ¬ q.F g) ∧ ∀ p ∈ ps, ∀ g, p.F g → ¬ V g
 sum : cp + potP ps ≤ S
 cnt : ps.length + potP ps ≤ S + 1
 kon : Kont wr ps Fin
 sz : ∀ p ∈ ps, sizeT p.n p.T ≤ 1048576

theorem flatT_oneS {xs : List TV} (h : ∀ i, i < xs.length → Slices (tvAt xs i)) : ∀ y ∈ flatT xs, y.oneCell' = true := by
 intro y hy
 obtain ⟨x, hx, hy2⟩ := List.mem_flatMap.1 hy
 obtain ⟨i, hi, rfl⟩ := List.getElem_of_mem hx
 have e : tvAt xs i = xs[i] := by simp [tvAt, List.getD, hi]
 have := h i hi
 rw [e] at this
 obtain ⟨r1, r2, r3, r4, z1, z2, z3, z4, s1, s2, s3, s4, hs⟩ := this
 rw [hs] at hy2
 simp [TV.cells] at hy2
 rcases hy2 with rfl | rfl | rfl | rfl | rfl <;> rfl
theorem five_of {c : Array Value} (h : c.size = 5) : ∃ z0 z1 z2 z3 z4, c = #[z0, z1, z2, z3, z4] := by
 obtain ⟨l⟩ := c
 rcases l with _ | ⟨a, _ | ⟨b, _ | ⟨c, _ | ⟨d, _ | ⟨e, _ | ⟨f, l⟩⟩⟩⟩⟩⟩ <;> simp at h
 exact ⟨a, b, c, d, e, rfl⟩

theorem copier_ty {u : World} {C : Nat} {A : Array Value} (h : BoxC u C A) : ∀ g c t, g = C → TreeTy t → ¬ u.heap[g]? = some (.cells c t (0, 0)) := by
 intro g c t hg ht hh
 subst hg
 unfold BoxC at h
 rw [hh] at h
 rcases ht with rfl | rfl | rfl | rfl <;> simp at h

theorem Ci.shape {d : Bool} {S : Nat} {w wr : World} {C M : Nat} {ps : List Pd} {vl : Value} {cp : Nat} {V : Nat → Prop} {Fin : World → Prop} (h : Ci d S w wr C M ps vl cp V Fin) : ∃ a q, vl = .slice a ps.length q := h.lf.slice
theorem Ci.pop {d : Bool} {S : Nat} {w wr : World} {C M : Nat} {qs : List Pd} {p : Pd} {vl : Value} {cp : Nat} {V : Nat → Prop} {Fin : World → Prop} (h : Ci d S w wr C M (qs ++ [p]) vl cp V Fin) : ∃ g q, vl = .slice (some ⟨g, 0, none⟩) (qs.length + 1) q ∧ qs.length < q ∧ wr.cell? ⟨g, qs.length, none⟩ = some p.ptr ∧ Mid w wr (wr.setCell ⟨C, 1, none⟩ (.slice (some ⟨g, 0, none⟩) qs.length q)) C M p p.x (.slice (some ⟨g, 0, none⟩) qs.length q) (qs.map Pd.ptr) cp V := by
 have hl := h.lf
 rw [List.length_append, List.map_append] at hl
 obtain ⟨g, q, hv, hq, hle⟩ := hl.pos (by simp)
 simp only [List.length_cons, List.length_nil] at hv hl hle
 subst hv
 obtain ⟨h1, h2, h3⟩ := OwnE.pop (m := qs.length) (xs := qs.map Pd.ptr) (y := p.ptr) hl (by simp)
 have hon : ∀ ps : List Pd, Only ps wr (wr.setCell ⟨C, 1, none⟩ (.slice (some ⟨g, 0, none⟩) qs.length q)) := fun ps => Only.of_chg (chg_set1 wr C 1 _) (copier_ty h.bx)
 have hCl : ¬ wrB (.slice (some ⟨g, 0, none⟩) qs.length q) C := h.bx.apart h1 (by decide)
 refine ⟨g, q, rfl, h3, h2, h.bx.set1 _, h.md.set ⟨_, _, h.bx⟩ _, ?_, fun g' hg' => h.lo g' ?_, (h.ho p (by simp)).kept (hon []) (fun j _ ⟨q, hq, _⟩ => by cases hq), hon _, h.bw.setCell (p := ⟨C, 1, none⟩) h.hC _, h.hC, h.hM, h.hv, h.hp p (by simp)⟩
 ·rw [List.length_map]
  exact h1.chg (chg_set1 wr C 1 _) (fun g' hg' e => hCl (e ▸ hg'))
 ·obtain ⟨_, _, he, hc⟩ := hg'
  simp at he
  obtain ⟨rfl, _, rfl⟩ := he
  exact ⟨_, _, rfl, hc⟩

theorem holds_row {u : World} {base K Q i : Nat} {xs : List TV} (h : OwnE u base 69 5 (.slice (some ⟨K, 0, none⟩) xs.length Q) xs.length (flatT xs)) (hi : i < xs.length) : Holds u K (i * 5) (tvAt xs i) := by
 have h : u.ownsRow base 69 5 (.slice (some ⟨K, 0, none⟩) xs.length Q) xs.length (flatT xs) := by
  rcases h with h | ⟨h0, _⟩
  ·exact h
  ·omega
 obtain ⟨hl, ⟨h, _⟩ | ⟨g, cap, cur, hv, hg, hh0, hnc, hcap, hsz, htake⟩⟩ := h
 ·simp at h
 simp at hv
 obtain ⟨rfl, rfl⟩ := hv
 obtain ⟨f1, f2, f3, f4, f5⟩ := flatT_at xs i hi
 rw [← htake] at f1 f2 f3 f4 f5
 simp only [List.getElem?_take, Array.getElem?_toList] at f1 f2 f3 f4 f5
 rw [if_pos (by omega)] at f1 f2 f3 f4 f5
 exact ⟨cur, hh0, f1, f2, f3, f4, f5⟩

theorem Ci.next {d : Bool} {S n b K : Nat} {w wr u : World} {C M : Nat} {qs : List Pd} {p : Pd} {vl vl' : Value} {cp : Nat} {V : Nat → Prop} {Fin : World → Prop} {xs : List TV} {KF : Nat → Nat → Prop} {vp vc vk vb : Value} (h : Ci d S w wr C M (qs ++ [p]) vl cp V Fin) (hpn : p.n = n + 1)
  (m : Mid w wr u C M p ⟨p.x.lf, vp, vc, vk, vb⟩ vl' (qs.map Pd.ptr ++ ptrs K xs.length) (cp + wsum xs xs.length) (fun g => V g ∨ (0 < xs.length ∧ g = b)))
  (hlf : p.x.lf = p.T.leaf) (o1 : OwnE u wr.heap.size 157 2 vp p.T.pairs.length (flatP p.T.pairs)) (o2 : OwnE u wr.heap.size 3 1 vc p.T.cuts.length (flatI p.T.cuts)) (o3 : OwnE u wr.heap.size 115 3 vb p.T.buf.length (flatM p.T.buf))
  (hx : xs.length = p.T.kids.length) (o4 : OwnE u wr.heap.size 69 5 vk xs.length (flatT xs)) (hK : 0 < xs.length → ∃ Q, vk = .slice (some ⟨K, 0, none⟩) xs.length Q)
  (hs : ∀ i, i < xs.length → Src d n w (KF i) (tvAt xs i) (p.T.kids.getD i noTr)) (hd : d = true → (0 < xs.length → p.F b ∧ ∀ i, i < xs.length → ¬ KF i b) ∧ (∀ i g, i < xs.length → KF i g → p.F g) ∧ ∀ i j g, i < j → j < xs.length → KF i g → ¬ KF j g) :
  Ci d S w u C M (qs ++ kidPd K n xs p.T.kids KF) vl' (cp + wsum xs xs.length) (fun g => V g ∨ (0 < xs.length ∧ g = b)) Fin := by
 have hap := List.pairwise_append.1 h.apt
 have hpb : p.b < wr.heap.size := (h.ho p (by simp)).lt
 have hqb : ∀ q ∈ qs, q.b < wr.heap.size := fun q hq => (h.ho q (by simp [hq])).lt
 have hapq : ∀ q ∈ qs, q.b = p.b → q.o + 5 ≤ p.o ∨ p.o + 5 ≤ q.o := fun q hq => hap.2.2 q hq p (by simp)
 have hQ : ∀ q ∈ qs, Holds u q.b q.o q.x := fun q hq => (h.ho q (by simp [hq])).kept m.on (fun j hj ⟨r, hr, e, e1, e2⟩ => by
  simp at hr
  subst hr
  rcases hapq q hq e.symm with k | k <;> omega)
 have hKw : 0 < xs.length → wr.heap.size ≤ K := fun hn => by
  obtain ⟨g, q, hv, hq, _⟩ := o4.pos hn
  obtain ⟨Q, hv2⟩ := hK hn
  rw [hv] at hv2
  have e : g = K := by simpa [Value.ownBlock] using (congrArg Value.ownBlock hv2)
  exact (o4.lt K ⟨_, _, e ▸ hv, hq⟩).1
 have hkz := kz_kids (K0 := K) hx hs
 have hsum := h.sum
 have hcnt := h.cnt
 rw [potP_append, potP_one, hpn] at hsum hcnt
 rw [List.length_append] at hcnt
 have hge := wsum_ge xs xs.length (Nat.le_refl _)
 refine ⟨m.bx, m.md, ?_, m.lo, m.bw, m.hC, m.hM, m.hv, fun q hq => ?_, fun q hq => ?_, fun q hq => ?_, ?_, fun hdt => ⟨?_, fun q hq g hg => ?_⟩, ?_, ?_, ?_, fun q hq => ?_⟩
 ·have := m.lf
  rw [List.length_append, kidPd_length, List.map_append, kidPd_ptr]
  rw [List.length_append, List.length_map, ptrs_length] at this
  exact this
 ·rcases List.mem_append.1 hq with k | k
  ·exact hQ q k
  ·obtain ⟨i, hi, rfl⟩ := kidPd_mem k
   obtain ⟨Q, hv2⟩ := hK (by omega)
   subst hv2
   exact holds_row o4 hi
 ·rcases List.mem_append.1 hq with k | k
  ·exact h.hp q (by simp [k])
  ·obtain ⟨i, hi, rfl⟩ := kidPd_mem k
   exact Nat.le_trans h.bw.size (hKw (by omega))
 ·rcases List.mem_append.1 hq with k | k
  ·exact h.src q (by simp [k])
  ·obtain ⟨i, hi, rfl⟩ := kidPd_mem k
   exact hs i hi
 ·refine List.pairwise_append.2 ⟨hap.1, ?_, fun q hq r hr e => ?_⟩
  ·unfold kidPd
   rw [List.pairwise_map]
   exact List.pairwise_lt_range.imp (fun hij _ => by simp only; omega)
  ·obtain ⟨i, hi, rfl⟩ := kidPd_mem hr
   have := hKw (by omega)
   have := hqb q hq
   simp only at e
   omega
 ·obtain ⟨e1, e2, e3⟩ := hd hdt
  have hdd := List.pairwise_append.1 (h.dis hdt).1
  refine List.pairwise_append.2 ⟨hdd.1, ?_, fun q hq r hr g hg hg' => ?_⟩
  ·unfold kidPd
   rw [List.pairwise_map]
   refine List.Pairwise.imp_of_mem ?_ List.pairwise_lt_range
   intro i j hi hj hij g hg
   exact e3 i j g hij (List.mem_range.1 hj) hg
  ·obtain ⟨i, hi, rfl⟩ := kidPd_mem hr
   exact hdd.2.2 q hq p (by simp) g hg (e2 i g hi hg')
 ·obtain ⟨e1, e2, e3⟩ := hd hdt
  have hdd := List.pairwise_append.1 (h.dis hdt).1
  rcases List.mem_append.1 hq with k | k
  ·rintro (hV | ⟨hn, rfl⟩)
   ·exact (h.dis hdt).2 q (by simp [k]) g hg hV
   ·exact hdd.2.2 q k p (by simp) g hg (e1 hn).1
  ·obtain ⟨i, hi, rfl⟩ := kidPd_mem k
   rintro (hV | ⟨hn, rfl⟩)
   ·exact (h.dis hdt).2 p (by simp) g (e2 i g hi hg) hV
   ·exact (e1 hn).2 i hi hg
 ·rw [potP_append]
  omega
 ·rw [potP_append, List.length_append, kidPd_length]
  simp only [List.length_cons, List.length_nil] at hcnt
  omega
 ·exact Kont.step h.kon hpn m.on hqb hpb hapq m.ho hlf o1 o2 o3 hx o4 hK
 ·rcases List.mem_append.1 hq with k | k
  ·exact h.sz q (by simp [k])
  ·obtain ⟨i, hi, rfl⟩ := kidPd_mem k
   have h1 := h.sz p (by simp)
   rw [hpn] at h1
   have h2 := sizeT_kid (n := n) (T := p.T) (i := i) (by omega)
   show sizeT n (p.T.kids.getD i noTr) ≤ _
   unfold kidT at h2
   omega
end
end Go.Proofs.YtkcaelfkcepdkaaGreat
