/-
  Marks of whole trees: the marked tree as plain data; heldTree at it.
  Marks of whole trees: markTree over a tree in memory of its own.
  The laws' own copy of a tree lies in memory of its own, each row apart from all others.
  toMachine: a machine copied out of the law's own kind lies in memory of its own, every row apart.
  Nodes in memory of their own: each list in a stretch of blocks of its own.
-/
import Derived.Test.YtdcladffnjikkaaOfWn14
import Derived.Test.YtdcladffnjikkaaOfWn8
import Derived.Deep.DeepCutAuto
import Derived.Deep.CutBlock
import Derived.Test.YtdcladffnjikkaaOfWn2
import Derived.Test.YtdcladffnjikkaaOfWn12
import Derived.Test.YtdcladffnjikkaaOfWn4
namespace Go.Proofs.Ytdcladffnjikkaa
set_option maxRecDepth 100000
set_option maxHeartbeats 8000000
section
open Go.RowKit

theorem markMsgS_g (base : Nat) (v : Value) (l : ML) (k : Int) (w : World) (h : OwnE w base 73 3 v l.length (flatM l)) (hn : l.length ≤ 67108864) (hk0 : 0 ≤ k) (hk1 : k ≤ 67108864) :
  Calls Try.prog 43 #[v, .int .i64 k] w fun e w' => e = .returned (.int .i64 (k + 3 * l.length)) ∧ OwnE w' base 73 3 v l.length (flatM (marksM k l.length)) ∧ Chg (fun g => wrB v g) w w' := by
 rcases h with h | ⟨h0, h1, g, rfl⟩
 ·obtain ⟨a, cap, hv⟩ := owns_val h
  subst hv
  by_cases hc : 0 < l.length
  ·refine (markMsgS_any _ l k w (owns_mono h (Nat.zero_le _)) (by omega) hk0 (by omega)).mono ?_
   rintro e w' ⟨rfl, o, c⟩
   have hb : ∀ g, (Value.slice a l.length cap).ownBlock = some g → wrB (.slice a l.length cap) g := fun g hg => by
    obtain ⟨_, ⟨e, e2⟩ | ⟨g', cap', cur, e, _, _, hle, _⟩⟩ := h
    ·omega
    ·simp at e
     obtain ⟨rfl, rfl⟩ := e
     simp [Value.ownBlock] at hg
     subst hg
     exact ⟨_, _, rfl, by omega⟩
   refine ⟨rfl, .inl ?_, c.mono (fun g _ hg => hb g hg)⟩
   obtain ⟨hl, h1 | ⟨g, cap', cur, e, hg, hh, hn', hcap, hsz, ht⟩⟩ := o
   ·exact ⟨hl, .inl h1⟩
   ·exact ⟨hl, .inr ⟨g, cap', cur, e, (h.lt g (by rw [e]; rfl)).1, hh, hn', hcap, hsz, ht⟩⟩
  ·have hl : l = [] := List.length_eq_zero_iff.1 (by omega)
   subst hl
   refine (markMsgS_nil a cap k w).mono ?_
   rintro e w' ⟨rfl, rfl⟩
   exact ⟨by simp, .inl h, Chg.refl _ _⟩
 ·have hl : l = [] := List.length_eq_zero_iff.1 h0
  subst hl
  refine (markMsgS_nil _ 0 k w).mono ?_
  rintro e w' ⟨rfl, rfl⟩
  exact ⟨by simp, .inr ⟨rfl, rfl, g, rfl⟩, Chg.refl _ _⟩
theorem markPairS_g (base : Nat) (v : Value) (l : List (Int × Int)) (k : Int) (w : World) (h : OwnE w base 103 2 v l.length (flatP l)) (hn : l.length ≤ 67108864) (hk0 : 0 ≤ k) (hk1 : k ≤ 67108864) :
  Calls Try.prog 40 #[v, .int .i64 k] w fun e w' => e = .returned (.int .i64 (k + 2 * l.length)) ∧ OwnE w' base 103 2 v l.length (flatP (marksP k l.length)) ∧ Chg (fun g => wrB v g) w w' := by
 rcases h with h | ⟨h0, h1, g, rfl⟩
 ·obtain ⟨a, cap, hv⟩ := owns_val h
  subst hv
  by_cases hc : 0 < l.length
  ·refine (markPairS_l _ l k w (owns_mono h (Nat.zero_le _)) (by omega) hk0 (by omega)).mono ?_
   rintro e w' ⟨rfl, o, c⟩
   have hb : ∀ g, (Value.slice a l.length cap).ownBlock = some g → wrB (.slice a l.length cap) g := fun g hg => by
    obtain ⟨_, ⟨e, e2⟩ | ⟨g', cap', cur, e, _, _, hle, _⟩⟩ := h
    ·omega
    ·simp at e
     obtain ⟨rfl, rfl⟩ := e
     simp [Value.ownBlock] at hg
     subst hg
     exact ⟨_, _, rfl, by omega⟩
   refine ⟨rfl, .inl ?_, c.mono (fun g _ hg => hb g hg)⟩
   obtain ⟨hl, h1 | ⟨g, cap', cur, e, hg, hh, hn', hcap, hsz, ht⟩⟩ := o
   ·exact ⟨hl, .inl h1⟩
   ·exact ⟨hl, .inr ⟨g, cap', cur, e, (h.lt g (by rw [e]; rfl)).1, hh, hn', hcap, hsz, ht⟩⟩
  ·have hl : l = [] := List.length_eq_zero_iff.1 (by omega)
   subst hl
   refine (markPairS_nil a cap k w).mono ?_
   rintro e w' ⟨rfl, rfl⟩
   exact ⟨by simp, .inl h, Chg.refl _ _⟩
 ·have hl : l = [] := List.length_eq_zero_iff.1 h0
  subst hl
  refine (markPairS_nil _ 0 k w).mono ?_
  rintro e w' ⟨rfl, rfl⟩
  exact ⟨by simp, .inr ⟨rfl, rfl, g, rfl⟩, Chg.refl _ _⟩
theorem markIntS_g (base : Nat) (v : Value) (l : List Int) (k : Int) (w : World) (h : OwnE w base 3 1 v l.length (flatI l)) (hn : l.length ≤ 67108864) (hk0 : 0 ≤ k) (hk1 : k ≤ 67108864) :
  Calls Try.prog 41 #[v, .int .i64 k] w fun e w' => e = .returned (.int .i64 (k + l.length)) ∧ OwnE w' base 3 1 v l.length (flatI (marksI k l.length)) ∧ Chg (fun g => wrB v g) w w' := by
 rcases h with h | ⟨h0, h1, g, rfl⟩
 ·obtain ⟨a, cap, hv⟩ := owns_val h
  subst hv
  by_cases hc : 0 < l.length
  ·refine (markIntS_s _ l k w (owns_mono h (Nat.zero_le _)) (by omega) hk0 (by omega)).mono ?_
   rintro e w' ⟨rfl, o, c⟩
   have hb : ∀ g, (Value.slice a l.length cap).ownBlock = some g → wrB (.slice a l.length cap) g := fun g hg => by
    obtain ⟨_, ⟨e, e2⟩ | ⟨g', cap', cur, e, _, _, hle, _⟩⟩ := h
    ·omega
    ·simp at e
     obtain ⟨rfl, rfl⟩ := e
     simp [Value.ownBlock] at hg
     subst hg
     exact ⟨_, _, rfl, by omega⟩
   refine ⟨rfl, .inl ?_, c.mono (fun g _ hg => hb g hg)⟩
   obtain ⟨hl, h1 | ⟨g, cap', cur, e, hg, hh, hn', hcap, hsz, ht⟩⟩ := o
   ·exact ⟨hl, .inl h1⟩
   ·exact ⟨hl, .inr ⟨g, cap', cur, e, (h.lt g (by rw [e]; rfl)).1, hh, hn', hcap, hsz, ht⟩⟩
  ·have hl : l = [] := List.length_eq_zero_iff.1 (by omega)
   subst hl
   refine (markIntS_nil a cap k w).mono ?_
   rintro e w' ⟨rfl, rfl⟩
   exact ⟨by simp, .inl h, Chg.refl _ _⟩
 ·have hl : l = [] := List.length_eq_zero_iff.1 h0
  subst hl
  refine (markIntS_nil _ 0 k w).mono ?_
  rintro e w' ⟨rfl, rfl⟩
  exact ⟨by simp, .inr ⟨rfl, rfl, g, rfl⟩, Chg.refl _ _⟩

def withLeaf (b : Bool) (T : Tr) : Tr := ⟨b, T.pairs, T.cuts, T.kids, T.buf⟩
def markTr : Nat → Int → Tr → Tr
 | 0, _, T => T
 | n + 1, k, T => ⟨T.leaf, marksP k T.pairs.length, marksI (k + 2 * T.pairs.length) T.cuts.length,
   (List.range T.kids.length).map (fun i => withLeaf ((k + 2 * T.pairs.length + T.cuts.length + (mkTo n T.kids i : Nat)) % 3 == 0) (markTr n (k + 2 * T.pairs.length + T.cuts.length + (mkTo n T.kids i : Nat) + 1) (T.kids.getD i noTr))),
   marksM (k + 2 * T.pairs.length + T.cuts.length + (mkTs n T.kids : Nat)) T.buf.length⟩
def markTs (n : Nat) (k : Int) (ts : List Tr) : List Tr := (List.range ts.length).map (fun i => withLeaf ((k + (mkTo n ts i : Nat)) % 3 == 0) (markTr n (k + (mkTo n ts i : Nat) + 1) (ts.getD i noTr)))
theorem markTs_length (n : Nat) (k : Int) (ts : List Tr) : (markTs n k ts).length = ts.length := by simp [markTs]
theorem markTs_at (n : Nat) (k : Int) (ts : List Tr) (i : Nat) (h : i < ts.length) : (markTs n k ts).getD i noTr = withLeaf ((k + (mkTo n ts i : Nat)) % 3 == 0) (markTr n (k + (mkTo n ts i : Nat) + 1) (ts.getD i noTr)) := by simp [markTs, List.getD, h]
theorem markTr_succ (n : Nat) (k : Int) (T : Tr) : markTr (n + 1) k T = ⟨T.leaf, marksP k T.pairs.length, marksI (k + 2 * T.pairs.length) T.cuts.length, markTs n (k + 2 * T.pairs.length + T.cuts.length) T.kids, marksM (k + 2 * T.pairs.length + T.cuts.length + (mkTs n T.kids : Nat)) T.buf.length⟩ := rfl

def HeldTS (n : Nat) : Prop := ∀ (v : Value) (ts : List Tr) (k : Int) (w : World), TreesAt n w v (markTs n k ts) → 0 ≤ k → k + (mkTs n ts : Nat) ≤ 67108864 →
 Calls Try.prog 48 #[v, .int .i64 k] w fun e w' => e = .returned (.int .i64 (k + (mkTs n ts : Nat))) ∧ w' = w

theorem mkT_parts (n : Nat) (T : Tr) : mkT (n + 1) T = 2 * T.pairs.length + T.cuts.length + mkTs n T.kids + 3 * T.buf.length := rfl

theorem heldTS_of (n : Nat) (H : ∀ n', n = n' + 1 → HeldTS n') : HeldTS n := by
 intro v ts k w hw hk0 hk1
 obtain ⟨xs, hxl, hrow, hkid⟩ := hw
 rw [markTs_length] at hxl
 obtain ⟨a, b, off, cap, rfl, hcap, hmax, ha, hx0, hx1, hx2, hx3, hx4⟩ := hrow.trees
 have HK : Hid (∀ i, i < xs.length → TreeAt n w (tvAt xs i) (withLeaf ((k + (mkTo n ts i : Nat)) % 3 == 0) (markTr n (k + (mkTo n ts i : Nat) + 1) (ts.getD i noTr)))) := fun i hi => by
  have := hkid i hi
  rw [markTs_at n k ts i (by omega)] at this
  exact this
 have MS : Hid (∀ i, i < xs.length → mkTo n ts (i + 1) = mkTo n ts i + (1 + mkT n (ts.getD i noTr))) := fun i hi => mkTo_succ n ts i (by omega)
 have ML : Hid (∀ i, i ≤ xs.length → mkTo n ts i ≤ mkTs n ts) := fun i hi => mkTo_le n ts i (by omega)
 have MF : Hid (mkTo n ts xs.length = mkTs n ts) := by
  show _ = _
  rw [hxl, mkTo_full]
 have M0 : Hid (mkTo n ts 0 = 0) := by
  show _ = _
  simp [mkTo]
 unfold maxLen at hmax
 clear hkid hxl hrow
 generalize mkTs n ts = TOT at *
 generalize mkTo n ts = fo at *
 have XC : Hid ((0 < xs.length → a = some ⟨b, off, none⟩) ∧ ∀ i, i < xs.length → w.cell? ⟨b, off + i * 5, none⟩ = some (.bool (tvAt xs i).lf) ∧ w.cell? ⟨b, off + i * 5 + 1, none⟩ = some (tvAt xs i).p ∧ w.cell? ⟨b, off + i * 5 + 2, none⟩ = some (tvAt xs i).c ∧ w.cell? ⟨b, off + i * 5 + 3, none⟩ = some (tvAt xs i).k ∧ w.cell? ⟨b, off + i * 5 + 4, none⟩ = some (tvAt xs i).b) := ⟨ha, fun i hi => ⟨hx0 i hi, hx1 i hi, hx2 i hi, hx3 i hi, hx4 i hi⟩⟩
 clear ha hx0 hx1 hx2 hx3 hx4
 generalize hm : xs.length = m at *
 go_enter Try.func48, Try.ntmps48
 go_wp2
 go_loopw [1, 5] (fun kk i wr => ∃ j : Nat, j ≤ m ∧ i = .int .i64 j ∧ kk = .int .i64 (k + (fo j : Nat)) ∧ wr = w) (fun _ i _ => m - (intOf i).toNat)
 case atStart => exact ⟨0, Nat.zero_le _, rfl, by rw [M0.out]; simp, rfl⟩
 case round =>
  obtain ⟨j, hj, rfl, rfl, rfl⟩ := hrel
  by_cases hlt : j < m
  ·have hal := XC.out.1 (by omega)
   subst hal
   have WT := HK.out j hlt
   have hms := MS.out j hlt
   have hml := ML.out (j + 1) (by omega)
   cases n with
   | zero => exact WT.elim
   | succ n =>
   obtain ⟨t1, t2, t3, t4, t5⟩ := WT.parts
   obtain ⟨c0, c1, c2, c3, c4⟩ := XC.out.2 j hlt
   rw [mkT_parts] at hms
   rw [t1] at c0
   have HH : Hid (HeldTS n) := H n rfl
   simp only [withLeaf, markTr_succ] at t2 t3 t4 t5 c0
   rw [marksP_length] at t2
   rw [marksI_length] at t3
   rw [marksM_length] at t4
   have MSE : Hid _ := hms
   generalize tvAt xs j = y at *
   obtain ⟨yl, yp, yc, yk, yb⟩ := y
   simp only at t2 t3 t4 t5 c1 c2 c3 c4
   have T5 : Hid _ := t5
   generalize hn3 : mkTs n (ts.getD j noTr).kids = n3 at *
   have HN3 : Hid _ := hn3
   generalize (ts.getD j noTr).pairs.length = n1 at *
   generalize (ts.getD j noTr).cuts.length = n2 at *
   generalize (ts.getD j noTr).buf.length = n4 at *
   have hp0 : 0 ≤ k + (fo j : Int) := by omega
   have hp1 : k + (fo j : Int) + 1 + 2 * n1 + n2 + n3 + 3 * n4 ≤ 67108864 := by omega
   have HP : Hid _ := heldPairS_l yp n1 (k + (fo j : Nat) + 1) wr t2 (by omega) (by omega) (by omega)
   have HI : Hid _ := heldIntS_s yc n2 (k + (fo j : Nat) + 1 + 2 * (n1 : Int)) wr t3 (by omega) (by omega) (by omega)
   have HM : Hid _ := heldMsgS_any yb n4 (k + (fo j : Nat) + 1 + 2 * (n1 : Int) + (n2 : Int) + (n3 : Nat)) wr t4 (by omega) (by omega) (by omega)
   have HT : Hid (Calls Try.prog 48 #[yk, .int .i64 (k + (fo j : Nat) + 1 + 2 * (n1 : Int) + (n2 : Int))] wr fun e w' => e = .returned (.int .i64 (k + (fo j : Nat) + 1 + 2 * (n1 : Int) + (n2 : Int) + (n3 : Nat))) ∧ w' = wr) := by
    have := HH.out yk (ts.getD j noTr).kids (k + (fo j : Nat) + 1 + 2 * (n1 : Int) + (n2 : Int)) wr T5.out (by omega) (by rw [HN3.out]; omega)
    rw [HN3.out] at this
    exact this
   clear hms hml WT t1 t2 t3 t4 t5 hn3 T5 HH H HK XC ML
   have hne : (((k + (fo j : Int)) % 3 == 0) != ((k + (fo j : Int)) % 3 == 0)) = false := by simp
   have q1 : ¬ (k + (fo j : Int) + 1 + 2 * (n1 : Int) < 0) := by omega
   have q2 : ¬ (k + (fo j : Int) + 1 + 2 * (n1 : Int) + (n2 : Int) < 0) := by omega
   have q3 : ¬ (k + (fo j : Int) + 1 + 2 * (n1 : Int) + (n2 : Int) + (n3 : Int) < 0) := by omega
   have q4 : ¬ (k + (fo j : Int) + 1 + 2 * (n1 : Int) + (n2 : Int) + (n3 : Int) + 3 * (n4 : Int) < 0) := by omega
   go_wp2_with fail
   refine Calls.mono HP.out ?_
   rintro e w1 ⟨rfl, hw1⟩
   subst hw1
   go_wp2_with fail
   refine Calls.mono HI.out ?_
   rintro e w1 ⟨rfl, hw1⟩
   subst hw1
   go_wp2_with fail
   refine Calls.mono HT.out ?_
   rintro e w1 ⟨rfl, hw1⟩
   subst hw1
   go_wp2_with fail
   refine Calls.mono HM.out ?_
   rintro e w1 ⟨rfl, hw1⟩
   subst hw1
   go_wp2
   go_roundw
   case rel => exact ⟨j + 1, by omega, by go_num, by rw [MSE.out]; congr 1; omega, by trivial⟩
   case measure => simp [intOf]; omega
  ·have hjl : j = m := by omega
   subst hjl
   have E : Hid (fo j = TOT) := MF
   go_wp2
   go_ret
   exact ⟨ret_int (by rw [E.out]), rfl⟩

theorem heldTS_any : ∀ n, HeldTS n
 | 0 => heldTS_of 0 (fun _ h => by cases h)
 | n + 1 => heldTS_of (n + 1) (fun n' h => by cases h; exact heldTS_any n)
end
section
open Go.RowKit

theorem flatT_flag (l : List TV) (b : Bool) : ∀ i, i < l.length → (flatT l).set (i * 5) (.bool b) = flatT (l.set i ⟨b, (tvAt l i).p, (tvAt l i).c, (tvAt l i).k, (tvAt l i).b⟩) := by
 induction l with
 | nil => intro i h; simp at h
 | cons p l ih =>
  intro i h
  cases i with
  | zero => simp [flatT_cons, tvAt]
  | succ i =>
   have := ih i (by simpa using h)
   rw [flatT_cons, List.set_cons_succ, flatT_cons, show (i + 1) * 5 = i * 5 + 1 + 1 + 1 + 1 + 1 by omega]
   simp only [List.set_cons_succ, this]
   simp [tvAt]
theorem wrB_ty {w : World} {b e s n : Nat} {v : Value} {xs : List Value} (h : OwnE w b e s v n xs) {g : Nat} (hg : wrB v g) : ∃ cur, w.heap[g]? = some (.cells cur e (0, 0)) := by
 obtain ⟨k, cap, rfl, hc⟩ := hg
 rcases h with h | ⟨_, _, g', h'⟩
 ·exact (owns_lt h (g := g) rfl).2
 ·simp at h'; omega
theorem wrB_apart {w : World} {b b' e e' s s' n n' : Nat} {v v' : Value} {xs xs' : List Value} (h : OwnE w b e s v n xs) (h' : OwnE w b' e' s' v' n' xs') (ht : e ≠ e') {g : Nat} (hg : wrB v g) : ¬ wrB v' g := fun hg' => by
 obtain ⟨c, hc⟩ := wrB_ty h hg
 obtain ⟨c', hc'⟩ := wrB_ty h' hg'
 rw [hc] at hc'
 simp at hc'
 exact ht hc'.2

def MarkDS (n : Nat) : Prop := ∀ (v : Value) (xs : List TV) (ts : List Tr) (K : Nat → Nat → Prop) (k : Int) (w : World), xs.length = ts.length → OwnE w 0 43 5 v xs.length (flatT xs) →
 (∀ i, i < xs.length → TreeD n w (K i) (tvAt xs i) (ts.getD i noTr)) → (∀ i g, i < xs.length → K i g → ¬ wrB v g) → (∀ i j g, i < j → j < xs.length → K i g → ¬ K j g) → 0 ≤ k → k + (mkTs n ts : Nat) ≤ 67108864 →
 Calls Try.prog 42 #[v, .int .i64 k] w fun e w' => e = .returned (.int .i64 (k + (mkTs n ts : Nat))) ∧
  (∃ ys : List TV, ys.length = xs.length ∧ OwnE w' 0 43 5 v ys.length (flatT ys) ∧ ∀ i, i < xs.length → TreeD n w' (K i) (tvAt ys i) ((markTs n k ts).getD i noTr)) ∧ Chg (fun g => wrB v g ∨ ∃ i, i < xs.length ∧ K i g) w w'

structure HalfD (n : Nat) (v : Value) (m : Nat) (ts : List Tr) (K : Nat → Nat → Prop) (k : Int) (w wr : World) (j : Nat) (ys : List TV) : Prop where
 len : ys.length = m
 own : OwnE wr 0 43 5 v m (flatT ys)
 ahead : ∀ i, i < j → i < m → TreeD n wr (K i) (tvAt ys i) ((markTs n k ts).getD i noTr)
 rest : ∀ i, j ≤ i → i < m → TreeD n wr (K i) (tvAt ys i) (ts.getD i noTr)
 chg : Chg (fun g => wrB v g ∨ ∃ i, i < m ∧ K i g) w wr

theorem HalfD.step {n m j g cap : Nat} {ts : List Tr} {K : Nat → Nat → Prop} {k : Int} {w wr w5 : World} {ys : List TV} {flag : Bool} (h : HalfD n (.slice (some ⟨g, 0, none⟩) m cap) m ts K k w wr j ys) (hj : j < m)
  (hv : ∀ i g', i < m → K i g' → ¬ wrB (.slice (some ⟨g, 0, none⟩) m cap) g') (hd : ∀ i j g', i < j → j < m → K i g' → ¬ K j g') (hcap : 0 < cap)
  (hc : Chg (K j) (wr.setCell ⟨g, j * 5, none⟩ (.bool flag)) w5)
  (ht : TreeD n w5 (K j) ⟨flag, (tvAt ys j).p, (tvAt ys j).c, (tvAt ys j).k, (tvAt ys j).b⟩ ((markTs n k ts).getD j noTr)) :
  HalfD n (.slice (some ⟨g, 0, none⟩) m cap) m ts K k w w5 (j + 1) (ys.set j ⟨flag, (tvAt ys j).p, (tvAt ys j).c, (tvAt ys j).k, (tvAt ys j).b⟩) := by
 have hg : wrB (.slice (some ⟨g, 0, none⟩) m cap) g := ⟨_, _, rfl, hcap⟩
 have c1 : Chg (fun g' => g' = g) wr (wr.setCell ⟨g, j * 5, none⟩ (.bool flag)) := (Chg.refl (fun g' => g' = g) wr).setAt g (j * 5) rfl _
 have hl := h.len
 have ow : wr.ownsRow 0 43 5 (.slice (some ⟨g, 0, none⟩) m cap) m (flatT ys) := by
  rcases h.own with h | ⟨h, _⟩
  ·exact h
  ·omega
 have o1 := (ow.stored (j * 5) (.bool flag)).1
 rw [flatT_flag ys flag j (by omega)] at o1
 have o5 := owns_chg o1 hc (fun g' hg' e => hv j g' hj e ⟨_, _, by simp [Value.ownBlock] at hg'; subst hg'; rfl, hcap⟩)
 have other : ∀ (i : Nat) (T : Tr) (x : TV), i < m → i ≠ j → TreeD n wr (K i) x T → TreeD n w5 (K i) x T := fun i T x hi hij t =>
  (t.chg c1 (fun g' hg' e => hv i g' hi hg' (by subst e; exact hg))).chg hc (fun g' hg' e => by
   rcases Nat.lt_or_gt_of_ne hij with h | h
   ·exact hd i j g' h hj hg' e
   ·exact hd j i g' h hi e hg')
 have tv : ∀ i, i ≠ j → tvAt (ys.set j ⟨flag, (tvAt ys j).p, (tvAt ys j).c, (tvAt ys j).k, (tvAt ys j).b⟩) i = tvAt ys i := fun i hi => by
  simp [tvAt, List.getD, List.getElem?_set_ne (Ne.symm hi)]
 have tj : tvAt (ys.set j ⟨flag, (tvAt ys j).p, (tvAt ys j).c, (tvAt ys j).k, (tvAt ys j).b⟩) j = ⟨flag, (tvAt ys j).p, (tvAt ys j).c, (tvAt ys j).k, (tvAt ys j).b⟩ := by
  simp [tvAt, List.getD, hl, hj]
 refine ⟨by simp [hl], .inl o5, fun i hi him => ?_, fun i hi him => ?_, (h.chg.trans c1 (fun g' _ e => .inl (by subst e; exact hg))).trans hc (fun g' _ e => .inr ⟨j, hj, e⟩)⟩
 ·by_cases e : i = j
  ·subst e; rw [tj]; exact ht
  ·rw [tv i e]; exact other i _ _ him e (h.ahead i (by omega) him)
 ·rw [tv i (by omega)]; exact other i _ _ him (by omega) (h.rest i (by omega) him)

theorem markDS_of (n : Nat) (H : ∀ n', n = n' + 1 → MarkDS n') : MarkDS n := by
 intro v xs ts K k w hl ho hkid hv hd hk0 hk1
 obtain ⟨a, cap, hvv⟩ := ho.slice
 subst hvv
 have hlen : xs.length ≤ 67108864 := by
  have : ts.length ≤ mkTs n ts := by unfold mkTs; omega
  omega
 have MS : Hid (∀ i, i < xs.length → mkTo n ts (i + 1) = mkTo n ts i + (1 + mkT n (ts.getD i noTr))) := fun i hi => mkTo_succ n ts i (by omega)
 have ML : Hid (∀ i, i ≤ xs.length → mkTo n ts i ≤ mkTs n ts) := fun i hi => mkTo_le n ts i (by omega)
 have MF : Hid (mkTo n ts xs.length = mkTs n ts) := by
  show _ = _
  rw [hl, mkTo_full]
 have M0 : Hid (mkTo n ts 0 = 0) := by
  show _ = _
  simp [mkTo]
 have MA : Hid (∀ i, i < xs.length → (markTs n k ts).getD i noTr = withLeaf ((k + (mkTo n ts i : Nat)) % 3 == 0) (markTr n (k + (mkTo n ts i : Nat) + 1) (ts.getD i noTr))) := fun i hi => markTs_at n k ts i (by omega)
 have H0 : Hid (HalfD n (.slice a xs.length cap) xs.length ts K k w w 0 xs) := ⟨rfl, ho, fun i hi => absurd hi (Nat.not_lt_zero _), fun i _ hi => hkid i hi, Chg.refl _ _⟩
 have HV : Hid _ := And.intro hv hd
 clear ho hkid hv hd hl
 generalize mkTs n ts = TOT at *
 generalize hfo : mkTo n ts = fo at *
 generalize xs.length = m at *
 have hm63 : (m : Int) ≤ 67108864 := by omega
 clear hfo
 go_enter Try.func42, Try.ntmps42
 go_wp2
 go_loopw [1, 5] (fun kk i wr => ∃ (j : Nat) (ys : List TV), j ≤ m ∧ i = .int .i64 j ∧ kk = .int .i64 (k + (fo j : Nat)) ∧ Hid (HalfD n (.slice a m cap) m ts K k w wr j ys)) (fun _ i _ => m - (intOf i).toNat)
 case atStart => exact ⟨0, xs, Nat.zero_le _, rfl, by rw [M0.out]; simp, H0⟩
 case round =>
  obtain ⟨j, ys, hj, rfl, rfl, HF⟩ := hrel
  by_cases hlt : j < m
  ·have ow : wr.ownsRow 0 43 5 (.slice a m cap) m (flatT ys) := by
    rcases HF.out.own with h | ⟨h, _⟩
    ·exact h
    ·omega
   obtain ⟨g, hag, hcap⟩ : ∃ g, a = some ⟨g, 0, none⟩ ∧ 0 < cap := by
    obtain ⟨_, ⟨e, e2⟩ | ⟨g, cap', cur, e, _, _, hle, _⟩⟩ := id ow
    ·omega
    ·simp at e
     exact ⟨g, e.1, by omega⟩
   subst hag
   have hyl := HF.out.len
   have hms := MS.out j hlt
   have hml := ML.out (j + 1) (by omega)
   have HMA := MA.out j hlt
   have WT := HF.out.rest j (Nat.le_refl _) hlt
   cases n with
   | zero => exact WT.elim
   | succ n =>
   have hat := flatT_at ys j (by omega)
   have c0 := (ow.cellAt (j * 5) (by omega)).trans hat.1
   have f0 := ow.frozenAt (j * 5)
   have o1 := (ow.stored (j * 5) (.bool ((k + (fo j : Int)) % 3 == 0))).1
   rw [flatT_flag ys _ j (by omega)] at o1
   have hgw : wrB (.slice (some ⟨g, 0, none⟩) m cap) g := ⟨_, _, rfl, hcap⟩
   have LK : Hid (∀ u : World, Chg (K j) (wr.setCell ⟨g, j * 5, none⟩ (.bool ((k + (fo j : Int)) % 3 == 0))) u → u.cell? ⟨g, j * 5 + 1, none⟩ = some (tvAt ys j).p ∧ u.cell? ⟨g, j * 5 + 2, none⟩ = some (tvAt ys j).c ∧ u.cell? ⟨g, j * 5 + 3, none⟩ = some (tvAt ys j).k ∧ u.cell? ⟨g, j * 5 + 4, none⟩ = some (tvAt ys j).b) := fun u hu => by
    have ou := owns_chg o1 hu (fun g' hg' e => HV.out.1 j g' hlt e ⟨_, _, by simp [Value.ownBlock] at hg'; subst hg'; rfl, hcap⟩)
    have hat2 := flatT_at (ys.set j ⟨((k + (fo j : Int)) % 3 == 0), (tvAt ys j).p, (tvAt ys j).c, (tvAt ys j).k, (tvAt ys j).b⟩) j (by simp; omega)
    have tj : tvAt (ys.set j ⟨((k + (fo j : Int)) % 3 == 0), (tvAt ys j).p, (tvAt ys j).c, (tvAt ys j).k, (tvAt ys j).b⟩) j = ⟨((k + (fo j : Int)) % 3 == 0), (tvAt ys j).p, (tvAt ys j).c, (tvAt ys j).k, (tvAt ys j).b⟩ := by
     simp [tvAt, List.getD, hyl, hlt]
    rw [tj] at hat2
    exact ⟨(ou.cellAt (j * 5 + 1) (by omega)).trans hat2.2.1, (ou.cellAt (j * 5 + 2) (by omega)).trans hat2.2.2.1, (ou.cellAt (j * 5 + 3) (by omega)).trans hat2.2.2.2.1, (ou.cellAt (j * 5 + 4) (by omega)).trans hat2.2.2.2.2⟩
   have cg : Chg (fun g' => g' = g) wr (wr.setCell ⟨g, j * 5, none⟩ (.bool ((k + (fo j : Int)) % 3 == 0))) := (Chg.refl (fun g' => g' = g) wr).setAt g (j * 5) rfl _
   have WT1 := WT.chg cg (fun g' hg' e => HV.out.1 j g' hlt hg' (by subst e; exact hgw))
   obtain ⟨t1, t2, t3, t4, t5, xs2, K2, u1, u2, u3, u4, u5⟩ := WT1
   have STEP : Hid (∀ w5 : World, Chg (K j) (wr.setCell ⟨g, j * 5, none⟩ (.bool ((k + (fo j : Int)) % 3 == 0))) w5 → TreeD (n + 1) w5 (K j) ⟨((k + (fo j : Int)) % 3 == 0), (tvAt ys j).p, (tvAt ys j).c, (tvAt ys j).k, (tvAt ys j).b⟩ ((markTs (n + 1) k ts).getD j noTr) → ∃ zs, HalfD (n + 1) (.slice (some ⟨g, 0, none⟩) m cap) m ts K k w w5 (j + 1) zs) := fun w5 h1 h2 => ⟨_, HF.out.step hlt HV.out.1 HV.out.2 hcap h1 h2⟩
   rw [HMA] at STEP
   have HH : Hid (MarkDS n) := H n rfl
   have hme := mkT_parts n (ts.getD j noTr)
   rw [hme] at hms
   have MSE : Hid _ := hms
   obtain ⟨d1, d2, d3, d4⟩ := LK.out _ (Chg.refl _ _)
   generalize hW1 : (wr.setCell ⟨g, j * 5, none⟩ (.bool ((k + (fo j : Int)) % 3 == 0))) = W1 at *
   have E1 : Hid (wr.setCell ⟨g, j * 5, none⟩ (.bool ((k + (fo j : Int)) % 3 == 0)) = W1) := hW1
   clear hW1
   generalize tvAt ys j = y at *
   obtain ⟨yl, yp, yc, yk, yb⟩ := y
   simp only at t1 t2 t3 t4 t5 u2 u4 d1 d2 d3 d4 LK STEP c0
   generalize ts.getD j noTr = t at *
   have hp0 : 0 ≤ k + (fo j : Int) := by omega
   have hp1 : k + (fo j : Int) + 1 + 2 * (t.pairs.length : Int) + t.cuts.length + (mkTs n t.kids : Nat) + 3 * (t.buf.length : Int) ≤ 67108864 := by omega
   have HP : Hid _ := markPairS_g 0 yp t.pairs (k + (fo j : Nat) + 1) W1 t2 (by omega) (by omega) (by omega)
   have TT : Hid _ := And.intro t3 (And.intro t4 (And.intro t5 (And.intro u1 (And.intro u2 (And.intro u3 (And.intro u4 (And.intro u5 t2)))))))
   clear hms hml WT t1 t2 t3 t4 t5 u1 u2 u3 u4 u5 hat o1 ow cg hme HMA H HF MA MS ML hgw hyl
   go_upto_region 6 with fail
   rw [E1.out]
   go_wp2_with fail
   refine Calls.mono HP.out ?_
   rintro e v1 ⟨rfl, p1, g1⟩
   obtain ⟨t3, t4, t5, u1, u2, u3, u4, u5, t2⟩ := TT.out
   have G1 : Hid (Chg (K j) W1 v1) := g1.mono (fun g' _ h => t5 g' (.inl h))
   have a3 := t3.chg g1 (fun g' hg' e => wrB_apart t3 t2 (by decide) hg' e)
   have a4 := t4.chg g1 (fun g' hg' e => wrB_apart t4 t2 (by decide) hg' e)
   have a2 := u2.chg g1 (fun g' hg' e => wrB_apart u2 t2 (by decide) hg' e)
   have a5 : ∀ i, i < xs2.length → TreeD n v1 (K2 i) (tvAt xs2 i) (t.kids.getD i noTr) := fun i hi => (u3 i hi).chg g1 (fun g' hg' e => (u4 i g' hi hg').2 (.inl e))
   clear d1 d2 d3 d4
   obtain ⟨d1, d2, d3, d4⟩ := LK.out v1 G1.out
   have HI : Hid _ := markIntS_g 0 yc t.cuts (k + (fo j : Nat) + 1 + 2 * (t.pairs.length : Int)) v1 a3 (by omega) (by omega) (by omega)
   have T1 : Hid _ := And.intro p1 (And.intro a3 (And.intro a4 (And.intro a2 a5)))
   clear p1 g1 a2 a3 a4 a5 t2 t3 t4 t5 u1 u2 u3 u4 u5 HP
   go_wp2_with fail
   refine Calls.mono HI.out ?_
   rintro e v2 ⟨rfl, p2, g2⟩
   obtain ⟨t3, t4, t5, u1, u2, u3, u4, u5, t2⟩ := TT.out
   obtain ⟨p1, a3, a4, a2, a5⟩ := T1.out
   have G2 : Hid (Chg (K j) W1 v2) := G1.out.trans (g2.mono (G := K j) (fun g' _ h => t5 g' (.inr (.inl h)))) (fun _ _ h => h)
   have p1 := p1.chg g2 (fun g' hg' e => wrB_apart p1 a3 (by decide) hg' e)
   have a4 := a4.chg g2 (fun g' hg' e => wrB_apart a4 a3 (by decide) hg' e)
   have a2 := a2.chg g2 (fun g' hg' e => wrB_apart a2 a3 (by decide) hg' e)
   have a5 : ∀ i, i < xs2.length → TreeD n v2 (K2 i) (tvAt xs2 i) (t.kids.getD i noTr) := fun i hi => (a5 i hi).chg g2 (fun g' hg' e => (u4 i g' hi hg').2 (.inr (.inl e)))
   clear d1 d2 d3 d4
   obtain ⟨d1, d2, d3, d4⟩ := LK.out v2 G2.out
   have HT : Hid _ := HH.out yk xs2 t.kids K2 (k + (fo j : Nat) + 1 + 2 * (t.pairs.length : Int) + (t.cuts.length : Int)) v2 u1 a2 a5 (fun i g' hi hg' e => (u4 i g' hi hg').2 (.inr (.inr (.inr e)))) u5 (by omega) (by omega)
   have T2 : Hid _ := And.intro p1 (And.intro p2 (And.intro a4 a2))
   clear p1 p2 g2 a2 a3 a4 a5 t2 t3 t4 t5 u1 u2 u3 u4 u5 HI T1 G1
   go_wp2_with fail
   refine Calls.mono HT.out ?_
   rintro e v3 ⟨rfl, ⟨zs, z1, z2, z3⟩, g3⟩
   obtain ⟨t3, t4, t5, u1, u2, u3, u4, u5, t2⟩ := TT.out
   obtain ⟨p1, p2, a4, a2⟩ := T2.out
   have G3 : Hid (Chg (K j) W1 v3) := G2.out.trans (g3.mono (G := K j) (fun g' _ h => by
    rcases h with h | ⟨i, hi, h⟩
    ·exact t5 g' (.inr (.inr (.inr h)))
    ·exact (u4 i g' hi h).1)) (fun _ _ h => h)
   have ne3 : ∀ (g' : Nat), (wrB yp g' ∨ wrB yc g' ∨ wrB yb g') → ¬ wrB yk g' → ¬ (wrB yk g' ∨ ∃ i, i < xs2.length ∧ K2 i g') := fun g' h hn e => by
    rcases e with e | ⟨i, hi, e⟩
    ·exact hn e
    ·exact (u4 i g' hi e).2 (by rcases h with h | h | h; exact .inl h; exact .inr (.inl h); exact .inr (.inr (.inl h)))
   have p1 := p1.chg g3 (fun g' hg' => ne3 g' (.inl hg') (wrB_apart p1 a2 (by decide) hg'))
   have p2 := p2.chg g3 (fun g' hg' => ne3 g' (.inr (.inl hg')) (wrB_apart p2 a2 (by decide) hg'))
   have a4 := a4.chg g3 (fun g' hg' => ne3 g' (.inr (.inr hg')) (wrB_apart a4 a2 (by decide) hg'))
   clear d1 d2 d3 d4
   obtain ⟨d1, d2, d3, d4⟩ := LK.out v3 G3.out
   have HM : Hid _ := markMsgS_g 0 yb t.buf (k + (fo j : Nat) + 1 + 2 * (t.pairs.length : Int) + (t.cuts.length : Int) + (mkTs n t.kids : Nat)) v3 a4 (by omega) (by omega) (by omega)
   have T3 : Hid _ := And.intro p1 (And.intro p2 (And.intro a4 (And.intro z1 (And.intro z2 z3))))
   clear p1 p2 g3 a2 a4 z1 z2 z3 t2 t3 t4 t5 u1 u2 u3 u4 u5 HT T2 G2 ne3 HH
   go_wp2_with fail
   refine Calls.mono HM.out ?_
   rintro e v4 ⟨rfl, p4, g4⟩
   obtain ⟨t3, t4, t5, u1, u2, u3, u4, u5, t2⟩ := TT.out
   obtain ⟨p1, p2, a4, z1, z2, z3⟩ := T3.out
   have G4 : Hid (Chg (K j) W1 v4) := G3.out.trans (g4.mono (G := K j) (fun g' _ h => t5 g' (.inr (.inr (.inl h))))) (fun _ _ h => h)
   have p1 := p1.chg g4 (fun g' hg' e => wrB_apart p1 a4 (by decide) hg' e)
   have p2 := p2.chg g4 (fun g' hg' e => wrB_apart p2 a4 (by decide) hg' e)
   have z2 := z2.chg g4 (fun g' hg' e => wrB_apart z2 a4 (by decide) hg' e)
   have z3 : ∀ i, i < xs2.length → TreeD n v4 (K2 i) (tvAt zs i) ((markTs n (k + (fo j : Nat) + 1 + 2 * (t.pairs.length : Int) + (t.cuts.length : Int)) t.kids).getD i noTr) := fun i hi => (z3 i hi).chg g4 (fun g' hg' e => (u4 i g' hi hg').2 (.inr (.inr (.inl e))))
   have TJ : TreeD (n + 1) v4 (K j) ⟨((k + (fo j : Int)) % 3 == 0), yp, yc, yk, yb⟩ (withLeaf ((k + (fo j : Nat)) % 3 == 0) (markTr (n + 1) (k + (fo j : Nat) + 1) t)) := by
    rw [markTr_succ]
    refine ⟨rfl, ?_, ?_, ?_, t5, zs, K2, ?_, z2, ?_, ?_, ?_⟩
    ·show OwnE v4 0 _ 2 yp (marksP _ _).length (flatP (marksP _ _))
     rw [marksP_length]; exact p1
    ·show OwnE v4 0 _ 1 yc (marksI _ _).length (flatI (marksI _ _))
     rw [marksI_length]; exact p2
    ·show OwnE v4 0 _ 3 yb (marksM _ _).length (flatM (marksM _ _))
     rw [marksM_length]; exact p4
    ·show zs.length = (markTs _ _ _).length
     rw [markTs_length, z1, u1]
    ·exact fun i hi => z3 i (by omega)
    ·exact fun i g' hi => u4 i g' (by omega)
    ·exact fun i j' g' hij hj' => u5 i j' g' hij (by omega)
   have FIN : Hid _ := STEP.out v4 G4.out TJ
   clear p1 p2 p4 g4 a4 z1 z2 z3 t2 t3 t4 t5 u1 u2 u3 u4 u5 HM T3 G3 G4 TT TJ STEP LK d1 d2 d3 d4
   go_wp2
   go_roundw
   case rel =>
    obtain ⟨zs', hz⟩ := FIN.out
    exact ⟨j + 1, zs', by omega, by go_num, by rw [MSE.out]; congr 1; omega, hz⟩
   case measure => simp [intOf]; omega
  ·have hjl : j = m := by omega
   subst hjl
   have E : Hid (fo j = TOT) := MF
   go_wp2
   go_ret
   refine ⟨ret_int (by rw [E.out]), ⟨ys, HF.out.len, by rw [HF.out.len]; exact HF.out.own, fun i hi => HF.out.ahead i hi hi⟩, HF.out.chg⟩

theorem markDS_any : ∀ n, MarkDS n
 | 0 => markDS_of 0 (fun _ h => by cases h)
 | n + 1 => markDS_of (n + 1) (fun n' h => by cases h; exact markDS_any n)
end
section
open Go.RowKit

def KidsD (n : Nat) (w : World) (base k : Nat) (ys : List TV) (ts : List Tr) : Prop :=
 ∃ K : Nat → Nat → Prop, (∀ i, i < k → TreeD n w (K i) (tvAt ys i) (ts.getD i noTr)) ∧ (∀ i g, i < k → K i g → base ≤ g ∧ g < w.heap.size) ∧ ∀ i j g, i < j → j < k → K i g → ¬ K j g
def TreesZ (n : Nat) (w : World) (lo hi : Nat) (v : Value) (ts : List Tr) : Prop :=
 ∃ (xs : List TV) (K : Nat → Nat → Prop), xs.length = ts.length ∧ w.ownsRow lo 43 5 v xs.length (flatT xs) ∧ (∀ i, i < xs.length → TreeD n w (K i) (tvAt xs i) (ts.getD i noTr)) ∧ (∀ i g, i < xs.length → K i g → lo ≤ g ∧ g < hi ∧ ¬ wrB v g) ∧ ∀ i j g, i < j → j < xs.length → K i g → ¬ K j g
end
section
open Go.RowKit

theorem OwnE.of_owns {w : World} {base e size k : Nat} {v : Value} {xs : List Value} (h : w.ownsRow base e size v k xs) : OwnE w base e size v k xs := .inl h
end
section
open Go.RowKit

def OwnI (w : World) (lo hi e size : Nat) (v : Value) (k : Nat) (xs : List Value) : Prop := OwnE w lo e size v k xs ∧ ∀ g, wrB v g → g < hi
theorem OwnI.below {w w' : World} {lo hi e size k : Nat} {v : Value} {xs : List Value} (h : OwnI w lo hi e size v k xs) (hb : Below w.heap.size w w') : OwnI w' lo hi e size v k xs := ⟨h.1.below hb, h.2⟩
theorem OwnI.chg {w w' : World} {P : Nat → Prop} {lo hi e size k : Nat} {v : Value} {xs : List Value} (h : OwnI w lo hi e size v k xs) (hc : Chg P w w') (hP : ∀ g, lo ≤ g → g < hi → ¬ P g) : OwnI w' lo hi e size v k xs := ⟨h.1.chg hc (fun g hg => hP g (h.1.lt g hg).1 (h.2 g hg)), h.2⟩
theorem OwnI.row {w : World} {lo hi e size k : Nat} {v : Value} {xs : List Value} (h : OwnI w lo hi e size v k xs) : Row w v k xs := h.1.rowF.row
def MacI (n : Nat) (w : World) (lo hi : Nat) (m : MacV) (T : Tr) (l : DL) : Prop := MacD n w (fun g => lo ≤ g ∧ g < hi) m T l
theorem MacI.chg {n : Nat} {w w' : World} {P : Nat → Prop} {lo hi : Nat} {m : MacV} {T : Tr} {l : DL} (h : MacI n w lo hi m T l) (hc : Chg P w w') (hP : ∀ g, lo ≤ g → g < hi → ¬ P g) : MacI n w' lo hi m T l := MacD.chg h hc (fun g hg => hP g hg.1 hg.2)
theorem MacI.made {n : Nat} {w : World} {lo : Nat} {m : MacV} {T : Tr} {l : DL} (h : MacD n w (fun g => lo ≤ g) m T l) : MacI n w lo w.heap.size m T l := ⟨h.1.lt, h.2.1, fun g hg => ⟨h.2.2 g hg, (h.2.1.lt g hg).2⟩⟩
theorem MacD.at {n : Nat} {w : World} {F : Nat → Prop} {m : MacV} {T : Tr} {l : DL} (h : MacD n w F m T l) : MacAt n w m T l := ⟨h.1.treeF.treeAt, h.2.1.rowF.row⟩
theorem MacI.src {n : Nat} {w : World} {lo hi : Nat} {m : MacV} {T : Tr} {l : DL} (h : MacI n w lo hi m T l) : Src true n w (fun g => lo ≤ g ∧ g < hi) m.x T := ⟨fun _ => h.1, h.1.treeF⟩
theorem MacD.sl {n : Nat} {w : World} {F : Nat → Prop} {m : MacV} {T : Tr} {l : DL} (h : MacD n w F m T l) : ∃ (b : Bool) (x1 x2 x3 x4 x5 : Option Addr × Nat × Nat), m = ⟨⟨b, .slice x1.1 x1.2.1 x1.2.2, .slice x2.1 x2.2.1 x2.2.2, .slice x3.1 x3.2.1 x3.2.2, .slice x4.1 x4.2.1 x4.2.2⟩, .slice x5.1 x5.2.1 x5.2.2⟩ := by
 obtain ⟨x, v⟩ := m
 obtain ⟨b, x1, x2, x3, x4, e⟩ := h.1.sl
 obtain ⟨x5, e5⟩ := h.2.1.sl
 simp only at e e5
 subst e e5
 exact ⟨b, x1, x2, x3, x4, x5, rfl⟩
def NodD (n : Nat) (w : World) (lo : Nat) (N : NodV) (D : Nd) : Prop :=
 ∃ c1 c2 c3 c4 c5 c6 : Nat, lo ≤ c1 ∧ c1 ≤ c2 ∧ c2 ≤ c3 ∧ c3 ≤ c4 ∧ c4 ≤ c5 ∧ c5 ≤ c6 ∧ c6 ≤ w.heap.size ∧
  OwnI w lo c1 101 6 N.lv D.l.length (flatE D.l) ∧ MacI n w c1 c2 N.s D.T1 D.d1 ∧ OwnI w c2 c3 4 1 N.vv D.vs.length (flatL D.vs) ∧ OwnI w c3 c4 3 1 N.nv D.nx.length (flatI D.nx) ∧ OwnI w c4 c5 3 1 N.mv D.mt.length (flatI D.mt) ∧ MacI n w c5 c6 N.o D.T2 D.d2
end
end Go.Proofs.Ytdcladffnjikkaa
