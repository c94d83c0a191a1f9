/-
  A node's parts, each in blocks of its own: what marks are written into.
  MachineOk of the model.
-/
import Derived.Test.YtdcladffnjikkaaOfWn12
import Derived.Test.YtdcladffnjikkaaOfWn13
import Derived.Test.YtdcladffnjikkaaOfWn15
import Derived.Test.YtdcladffnjikkaaOfWn16
import Derived.Test.YtdcladffnjikkaaOfWn2
import Derived.Test.YtdcladffnjikkaaOfWn5
import Derived.BigQuiet
import Derived.Deep.DeepCutAuto
import Derived.Deep.CutBlock
import Derived.Deep.QuietTactic
namespace Go.Proofs.Ytdcladffnjikkaa
set_option maxRecDepth 100000
set_option maxHeartbeats 8000000
section
open Go.RowKit

def OwnS (w : World) (S : Nat → Prop) (e size : Nat) (v : Value) (n : Nat) (xs : List Value) : Prop := OwnE w 0 e size v n xs ∧ ∀ g, wrB v g → S g
theorem OwnS.chg {w w' : World} {S P : Nat → Prop} {e size n : Nat} {v : Value} {xs : List Value} (h : OwnS w S e size v n xs) (hc : Chg P w w') (hP : ∀ g, S g → ¬ P g) : OwnS w' S e size v n xs := ⟨h.1.chg hc (fun g hg => hP g (h.2 g hg)), h.2⟩
def KidsU (n : Nat) (w : World) (S : Nat → Prop) (v : Value) (ts : List Tr) : Prop :=
 ∃ (xs : List TV) (K : Nat → Nat → Prop), xs.length = ts.length ∧ OwnE w 0 43 5 v xs.length (flatT xs) ∧ (∀ i, i < xs.length → TreeD n w (K i) (tvAt xs i) (ts.getD i noTr)) ∧
  (∀ i g, i < xs.length → K i g → S g ∧ ¬ wrB v g) ∧ (∀ i j g, i < j → j < xs.length → K i g → ¬ K j g) ∧ ∀ g, wrB v g → S g
theorem KidsU.chg {n : Nat} {w w' : World} {S P : Nat → Prop} {v : Value} {ts : List Tr} (h : KidsU n w S v ts) (hc : Chg P w w') (hP : ∀ g, S g → ¬ P g) : KidsU n w' S v ts := by
 obtain ⟨xs, K, h1, h2, h3, h4, h5, h6⟩ := h
 exact ⟨xs, K, h1, h2.chg hc (fun g hg => hP g (h6 g hg)), fun i hi => (h3 i hi).chg hc (fun g hg => hP g (h4 i g hi hg).1), h4, h5, h6⟩

theorem callE {S : Nat → Prop} {v : Value} {l : EL} {w : World} (h : OwnS w S 101 6 v l.length (flatE l)) (k : Int) (hk0 : 0 ≤ k) (hk1 : k + 6 * l.length ≤ 67108864) :
  Calls Try.prog 39 #[v, .int .i64 k] w fun e w' => e = .returned (.int .i64 (k + 6 * l.length)) ∧ OwnS w' S 101 6 v (marksE k l.length).length (flatE (marksE k l.length)) ∧ Chg S w w' := by
 refine (markEntryS_g 0 v l k w h.1 (by omega) hk0 (by omega)).mono ?_
 rintro e w' ⟨a, b, c⟩
 exact ⟨a, ⟨by rw [marksE_length]; exact b, h.2⟩, c.mono (fun g _ hg => h.2 g hg)⟩
theorem callD {S : Nat → Prop} {v : Value} {l : DL} {w : World} (h : OwnS w S 78 4 v l.length (flatD l)) (k : Int) (hk0 : 0 ≤ k) (hk1 : k + 4 * l.length ≤ 67108864) :
  Calls Try.prog 21 #[v, .int .i64 k] w fun e w' => e = .returned (.int .i64 (k + 4 * l.length)) ∧ OwnS w' S 78 4 v (marksD k l.length).length (flatD (marksD k l.length)) ∧ Chg S w w' := by
 refine (markDoneS_g 0 v l k w h.1 (by omega) hk0 (by omega)).mono ?_
 rintro e w' ⟨a, b, c⟩
 exact ⟨a, ⟨by rw [marksD_length]; exact b, h.2⟩, c.mono (fun g _ hg => h.2 g hg)⟩
theorem callL {S : Nat → Prop} {v : Value} {l : List Bool} {w : World} (h : OwnS w S 4 1 v l.length (flatL l)) (k : Int) (hk0 : 0 ≤ k) (hk1 : k + l.length ≤ 67108864) :
  Calls Try.prog 44 #[v, .int .i64 k] w fun e w' => e = .returned (.int .i64 (k + l.length)) ∧ OwnS w' S 4 1 v (marksL k l.length).length (flatL (marksL k l.length)) ∧ Chg S w w' := by
 refine (markBoolS_g 0 v l k w h.1 (by omega) hk0 (by omega)).mono ?_
 rintro e w' ⟨a, b, c⟩
 exact ⟨a, ⟨by rw [marksL_length]; exact b, h.2⟩, c.mono (fun g _ hg => h.2 g hg)⟩
theorem callI {S : Nat → Prop} {v : Value} {l : List Int} {w : World} (h : OwnS w S 3 1 v l.length (flatI l)) (k : Int) (hk0 : 0 ≤ k) (hk1 : k + l.length ≤ 67108864) :
  Calls Try.prog 41 #[v, .int .i64 k] w fun e w' => e = .returned (.int .i64 (k + l.length)) ∧ OwnS w' S 3 1 v (marksI k l.length).length (flatI (marksI k l.length)) ∧ Chg S w w' := by
 refine (markIntS_g 0 v l k w h.1 (by omega) hk0 (by omega)).mono ?_
 rintro e w' ⟨a, b, c⟩
 exact ⟨a, ⟨by rw [marksI_length]; exact b, h.2⟩, c.mono (fun g _ hg => h.2 g hg)⟩
theorem callP {S : Nat → Prop} {v : Value} {l : List (Int × Int)} {w : World} (h : OwnS w S 103 2 v l.length (flatP l)) (k : Int) (hk0 : 0 ≤ k) (hk1 : k + 2 * l.length ≤ 67108864) :
  Calls Try.prog 40 #[v, .int .i64 k] w fun e w' => e = .returned (.int .i64 (k + 2 * l.length)) ∧ OwnS w' S 103 2 v (marksP k l.length).length (flatP (marksP k l.length)) ∧ Chg S w w' := by
 refine (markPairS_g 0 v l k w h.1 (by omega) hk0 (by omega)).mono ?_
 rintro e w' ⟨a, b, c⟩
 exact ⟨a, ⟨by rw [marksP_length]; exact b, h.2⟩, c.mono (fun g _ hg => h.2 g hg)⟩
theorem callM {S : Nat → Prop} {v : Value} {l : ML} {w : World} (h : OwnS w S 73 3 v l.length (flatM l)) (k : Int) (hk0 : 0 ≤ k) (hk1 : k + 3 * l.length ≤ 67108864) :
  Calls Try.prog 43 #[v, .int .i64 k] w fun e w' => e = .returned (.int .i64 (k + 3 * l.length)) ∧ OwnS w' S 73 3 v (marksM k l.length).length (flatM (marksM k l.length)) ∧ Chg S w w' := by
 refine (markMsgS_g 0 v l k w h.1 (by omega) hk0 (by omega)).mono ?_
 rintro e w' ⟨a, b, c⟩
 exact ⟨a, ⟨by rw [marksM_length]; exact b, h.2⟩, c.mono (fun g _ hg => h.2 g hg)⟩
theorem callK {n : Nat} {S : Nat → Prop} {v : Value} {ts : List Tr} {w : World} (h : KidsU n w S v ts) (k : Int) (hk0 : 0 ≤ k) (hk1 : k + (mkTs n ts : Nat) ≤ 67108864) :
  Calls Try.prog 42 #[v, .int .i64 k] w fun e w' => e = .returned (.int .i64 (k + (mkTs n ts : Nat))) ∧ KidsU n w' S v (markTs n k ts) ∧ Chg S w w' := by
 obtain ⟨xs, K, h1, h2, h3, h4, h5, h6⟩ := h
 refine (markDS_any n v xs ts K k w h1 h2 h3 (fun i g hi hg => (h4 i g hi hg).2) h5 hk0 hk1).mono ?_
 rintro e w' ⟨a, ⟨ys, b1, b2, b3⟩, c⟩
 refine ⟨a, ⟨ys, K, by rw [markTs_length, b1, h1], b2, fun i hi => b3 i (by omega), fun i g hi => h4 i g (by omega), fun i j g hij hj => h5 i j g hij (by omega), h6⟩, c.mono (fun g _ hg => ?_)⟩
 rcases hg with hg | ⟨i, hi, hg⟩
 ·exact h6 g hg
 ·exact (h4 i g hi hg).1

def mS (m : MacV) : Nat → Nat → Prop
 | 0, g => wrB m.x.p g
 | 1, g => wrB m.x.c g ∧ ¬ wrB m.x.p g
 | 2, g => ¬ wrB m.x.p g ∧ ¬ wrB m.x.c g ∧ ¬ wrB m.x.b g ∧ ¬ wrB m.v g
 | 3, g => wrB m.x.b g ∧ ¬ wrB m.x.p g ∧ ¬ wrB m.x.c g
 | 4, g => wrB m.v g ∧ ¬ wrB m.x.p g ∧ ¬ wrB m.x.c g ∧ ¬ wrB m.x.b g
 | _ + 5, _ => False
theorem mS_dis {m : MacV} {g : Nat} : ∀ {q r : Nat}, mS m q g → mS m r g → q = r := by
 intro q r h1 h2
 rcases q with _ | _ | _ | _ | _ | q <;> rcases r with _ | _ | _ | _ | _ | r <;> simp_all [mS]
def mP (n : Nat) (S : Nat → Nat → Prop) (m : MacV) (T : Tr) (l : DL) (w : World) : Nat → Prop
 | 0 => OwnS w (S 0) 103 2 m.x.p T.pairs.length (flatP T.pairs)
 | 1 => OwnS w (S 1) 3 1 m.x.c T.cuts.length (flatI T.cuts)
 | 2 => KidsU n w (S 2) m.x.k T.kids
 | 3 => OwnS w (S 3) 73 3 m.x.b T.buf.length (flatM T.buf)
 | 4 => OwnS w (S 4) 78 4 m.v l.length (flatD l)
 | _ + 5 => True
theorem MacD.parts {n : Nat} {w : World} {A : Nat → Prop} {m : MacV} {T : Tr} {l : DL} (h : MacD (n + 1) w A m T l) {S : Nat → Nat → Prop} (hS : ∀ r g, r < 5 → A g → mS m r g → S r g) : ∀ r, mP n S m T l w r := by
 obtain ⟨⟨_, b1, b2, b3, b4, xs, K, b5, b6, b7, b8, b9⟩, o1, o2⟩ := h
 intro r
 rcases r with _ | _ | _ | _ | _ | r
 ·exact ⟨b1, fun g hg => hS 0 g (by omega) (b4 g (.inl hg)) hg⟩
 ·exact ⟨b2, fun g hg => hS 1 g (by omega) (b4 g (.inr (.inl hg))) ⟨hg, wrB_apart b2 b1 (by decide) hg⟩⟩
 ·exact ⟨xs, fun i g => K i g ∧ ¬ wrB m.v g, b5, b6, fun i hi => (b7 i hi).off (by decide) (by decide) (by decide) (by decide) o1,
   fun i g hi hg => ⟨hS 2 g (by omega) (b8 i g hi hg.1).1 ⟨fun e => (b8 i g hi hg.1).2 (.inl e), fun e => (b8 i g hi hg.1).2 (.inr (.inl e)), fun e => (b8 i g hi hg.1).2 (.inr (.inr (.inl e))), hg.2⟩, fun e => (b8 i g hi hg.1).2 (.inr (.inr (.inr e)))⟩,
   fun i j g hij hj a b => b9 i j g hij hj a.1 b.1,
   fun g hg => hS 2 g (by omega) (b4 g (.inr (.inr (.inr hg)))) ⟨wrB_apart b6 b1 (by decide) hg, wrB_apart b6 b2 (by decide) hg, wrB_apart b6 b3 (by decide) hg, wrB_apart b6 o1 (by decide) hg⟩⟩
 ·exact ⟨b3, fun g hg => hS 3 g (by omega) (b4 g (.inr (.inr (.inl hg)))) ⟨hg, wrB_apart b3 b1 (by decide) hg, wrB_apart b3 b2 (by decide) hg⟩⟩
 ·exact ⟨o1, fun g hg => hS 4 g (by omega) (o2 g hg) ⟨hg, wrB_apart o1 b1 (by decide) hg, wrB_apart o1 b2 (by decide) hg, wrB_apart o1 b3 (by decide) hg⟩⟩
 ·trivial
theorem mP.at {n : Nat} {S : Nat → Nat → Prop} {m m' : MacV} {T : Tr} {l : DL} {w : World} (h0 : mP n S m T l w 0) (h1 : mP n S m T l w 1) (h2 : mP n S m T l w 2) (h3 : mP n S m T l w 3) (h4 : mP n S m T l w 4) (hm : m' = ⟨⟨T.leaf, m.x.p, m.x.c, m.x.k, m.x.b⟩, m.v⟩) : MacAt (n + 1) w m' T l := by
 subst hm
 obtain ⟨xs, K, k1, k2, k3, _⟩ := h2
 exact ⟨TreeAt.mk rfl h0.1.rowF.row h1.1.rowF.row h3.1.rowF.row ⟨xs, k1, k2.rowF.row, fun i hi => (k3 i hi).treeF.treeAt⟩, h4.1.rowF.row⟩

def NodA (n : Nat) (w : World) (F : Nat → Prop) (N : NodV) (D : Nd) : Prop :=
 ∃ A : Nat → Nat → Prop, (∀ s t g, A s g → A t g → s = t) ∧ (∀ s g, A s g → F g) ∧ OwnS w (A 0) 101 6 N.lv D.l.length (flatE D.l) ∧ MacD n w (A 1) N.s D.T1 D.d1 ∧
  OwnS w (A 2) 4 1 N.vv D.vs.length (flatL D.vs) ∧ OwnS w (A 3) 3 1 N.nv D.nx.length (flatI D.nx) ∧ OwnS w (A 4) 3 1 N.mv D.mt.length (flatI D.mt) ∧ MacD n w (A 5) N.o D.T2 D.d2
theorem NodA.chg {n : Nat} {w w' : World} {F P : Nat → Prop} {N : NodV} {D : Nd} (h : NodA n w F N D) (hc : Chg P w w') (hP : ∀ g, F g → ¬ P g) : NodA n w' F N D := by
 obtain ⟨A, h1, h2, o1, o2, o3, o4, o5, o6⟩ := h
 exact ⟨A, h1, h2, o1.chg hc (fun g hg => hP g (h2 _ g hg)), MacD.chg o2 hc (fun g hg => hP g (h2 _ g hg)), o3.chg hc (fun g hg => hP g (h2 _ g hg)), o4.chg hc (fun g hg => hP g (h2 _ g hg)), o5.chg hc (fun g hg => hP g (h2 _ g hg)), MacD.chg o6 hc (fun g hg => hP g (h2 _ g hg))⟩
theorem NodA.below {n : Nat} {w w' : World} {F : Nat → Prop} {N : NodV} {D : Nd} (h : NodA n w F N D) (hb : Below w.heap.size w w') : NodA n w' F N D := h.chg (Chg.of_below (F := fun _ => False) hb) (fun _ _ e => e)
theorem NodA.mono {n : Nat} {w : World} {F G : Nat → Prop} {N : NodV} {D : Nd} (h : NodA n w F N D) (hg : ∀ g, F g → G g) : NodA n w G N D := by
 obtain ⟨A, h1, h2, h3⟩ := h
 exact ⟨A, h1, fun s g e => hg g (h2 s g e), h3⟩
theorem NodA.at {n : Nat} {w : World} {F : Nat → Prop} {N : NodV} {D : Nd} (h : NodA n w F N D) : NodAt n w N D := by
 obtain ⟨A, _, _, o1, o2, o3, o4, o5, o6⟩ := h
 exact ⟨o1.1.rowF.row, MacD.at o2, o3.1.rowF.row, o4.1.rowF.row, o5.1.rowF.row, MacD.at o6⟩
theorem NodDh.own {n : Nat} {w : World} {lo hi : Nat} {N : NodV} {D : Nd} (h : NodDh n w lo hi N D) : NodA n w (fun g => lo ≤ g ∧ g < hi) N D := by
 obtain ⟨c1, c2, c3, c4, c5, c6, h1, h2, h3, h4, h5, h6, h7, h8, o1, o2, o3, o4, o5, o6⟩ := h
 refine ⟨fun s g => match s with | 0 => lo ≤ g ∧ g < c1 | 1 => c1 ≤ g ∧ g < c2 | 2 => c2 ≤ g ∧ g < c3 | 3 => c3 ≤ g ∧ g < c4 | 4 => c4 ≤ g ∧ g < c5 | 5 => c5 ≤ g ∧ g < c6 | _ => False, ?_, ?_, ⟨o1.1.mono (Nat.zero_le _), fun g hg => ⟨(o1.1.lt g hg).1, o1.2 g hg⟩⟩, o2, ⟨o3.1.mono (Nat.zero_le _), fun g hg => ⟨(o3.1.lt g hg).1, o3.2 g hg⟩⟩, ⟨o4.1.mono (Nat.zero_le _), fun g hg => ⟨(o4.1.lt g hg).1, o4.2 g hg⟩⟩, ⟨o5.1.mono (Nat.zero_le _), fun g hg => ⟨(o5.1.lt g hg).1, o5.2 g hg⟩⟩, o6⟩
 ·intro s t g a b
  rcases s with _ | _ | _ | _ | _ | _ | s <;> rcases t with _ | _ | _ | _ | _ | _ | t <;> simp only at a b <;> omega
 ·intro s g a
  rcases s with _ | _ | _ | _ | _ | _ | s <;> simp only at a <;> omega
theorem nodA_new {n : Nat} {N : NodV} {D : Nd} {lo hi gV gN gM c5 c6 : Nat} {w : World} (q : lo ≤ gV ∧ lo ≤ gN ∧ lo ≤ gM ∧ gV ≠ gN ∧ gV ≠ gM ∧ gN ≠ gM ∧ gV < c5 ∧ gN < c5 ∧ gM < c5 ∧ c5 ≤ c6 ∧ c6 ≤ hi)
  (o1 : OwnI w 0 0 101 6 N.lv D.l.length (flatE D.l)) (o2 : MacI n w 0 0 N.s D.T1 D.d1) (o3 : OwnI w gV (gV + 1) 4 1 N.vv D.vs.length (flatL D.vs)) (o4 : OwnI w gN (gN + 1) 3 1 N.nv D.nx.length (flatI D.nx)) (o5 : OwnI w gM (gM + 1) 3 1 N.mv D.mt.length (flatI D.mt)) (o6 : MacI n w c5 c6 N.o D.T2 D.d2) : NodA n w (fun g => lo ≤ g ∧ g < hi) N D := by
 refine ⟨fun s g => match s with | 0 => False | 1 => False | 2 => gV ≤ g ∧ g < gV + 1 | 3 => gN ≤ g ∧ g < gN + 1 | 4 => gM ≤ g ∧ g < gM + 1 | 5 => c5 ≤ g ∧ g < c6 | _ => False, ?_, ?_, ⟨o1.1, fun g hg => absurd (o1.2 g hg) (Nat.not_lt_zero _)⟩, ⟨o2.1.mono (fun g hg => absurd hg.2 (Nat.not_lt_zero _)), o2.2.1, fun g hg => absurd (o2.2.2 g hg).2 (Nat.not_lt_zero _)⟩, ⟨o3.1.mono (Nat.zero_le _), fun g hg => ⟨(o3.1.lt g hg).1, o3.2 g hg⟩⟩, ⟨o4.1.mono (Nat.zero_le _), fun g hg => ⟨(o4.1.lt g hg).1, o4.2 g hg⟩⟩, ⟨o5.1.mono (Nat.zero_le _), fun g hg => ⟨(o5.1.lt g hg).1, o5.2 g hg⟩⟩, o6⟩
 ·intro s t g a b
  rcases s with _ | _ | _ | _ | _ | _ | s <;> rcases t with _ | _ | _ | _ | _ | _ | t <;> simp only at a b <;> omega
 ·intro s g a
  rcases s with _ | _ | _ | _ | _ | _ | s <;> simp only at a <;> omega

def cd (r : Nat) : Nat := if r = 0 then 0 else if r ≤ 5 then 1 else if r ≤ 8 then r - 4 else 5
def nS (A : Nat → Nat → Prop) (N : NodV) (r g : Nat) : Prop := r < 14 ∧ A (cd r) g ∧ (1 ≤ r → r ≤ 5 → mS N.s (r - 1) g) ∧ (9 ≤ r → mS N.o (r - 9) g)
theorem nS_dis {A : Nat → Nat → Prop} {N : NodV} (hA : ∀ s t g, A s g → A t g → s = t) {r r' g : Nat} (h : nS A N r g) (h' : nS A N r' g) : r = r' := by
 have e := hA _ _ _ h.2.1 h'.2.1
 have b := h.1
 have b' := h'.1
 unfold cd at e
 by_cases h1 : 1 ≤ r ∧ r ≤ 5
 ·have h2 : 1 ≤ r' ∧ r' ≤ 5 := by (repeat' split at e) <;> omega
  have := mS_dis (h.2.2.1 h1.1 h1.2) (h'.2.2.1 h2.1 h2.2)
  omega
 ·by_cases h3 : 9 ≤ r
  ·have h4 : 9 ≤ r' := by (repeat' split at e) <;> omega
   have := mS_dis (h.2.2.2 h3) (h'.2.2.2 h4)
   omega
  ·(repeat' split at e) <;> omega
def nP (n : Nat) (S : Nat → Nat → Prop) (N : NodV) (D : Nd) (w : World) : Nat → Prop
 | 0 => OwnS w (S 0) 101 6 N.lv D.l.length (flatE D.l)
 | 1 => OwnS w (S 1) 103 2 N.s.x.p D.T1.pairs.length (flatP D.T1.pairs)
 | 2 => OwnS w (S 2) 3 1 N.s.x.c D.T1.cuts.length (flatI D.T1.cuts)
 | 3 => KidsU n w (S 3) N.s.x.k D.T1.kids
 | 4 => OwnS w (S 4) 73 3 N.s.x.b D.T1.buf.length (flatM D.T1.buf)
 | 5 => OwnS w (S 5) 78 4 N.s.v D.d1.length (flatD D.d1)
 | 6 => OwnS w (S 6) 4 1 N.vv D.vs.length (flatL D.vs)
 | 7 => OwnS w (S 7) 3 1 N.nv D.nx.length (flatI D.nx)
 | 8 => OwnS w (S 8) 3 1 N.mv D.mt.length (flatI D.mt)
 | 9 => OwnS w (S 9) 103 2 N.o.x.p D.T2.pairs.length (flatP D.T2.pairs)
 | 10 => OwnS w (S 10) 3 1 N.o.x.c D.T2.cuts.length (flatI D.T2.cuts)
 | 11 => KidsU n w (S 11) N.o.x.k D.T2.kids
 | 12 => OwnS w (S 12) 73 3 N.o.x.b D.T2.buf.length (flatM D.T2.buf)
 | 13 => OwnS w (S 13) 78 4 N.o.v D.d2.length (flatD D.d2)
 | _ + 14 => True
theorem nP.chg {n : Nat} {S : Nat → Nat → Prop} {N : NodV} {D : Nd} {w w' : World} {P : Nat → Prop} {r : Nat} (h : nP n S N D w r) (hc : Chg P w w') (hp : ∀ g, S r g → ¬ P g) : nP n S N D w' r := by
 rcases r with _ | _ | _ | _ | _ | _ | _ | _ | _ | _ | _ | _ | _ | _ | r
 ·exact OwnS.chg h hc hp
 ·exact OwnS.chg h hc hp
 ·exact OwnS.chg h hc hp
 ·exact KidsU.chg h hc hp
 ·exact OwnS.chg h hc hp
 ·exact OwnS.chg h hc hp
 ·exact OwnS.chg h hc hp
 ·exact OwnS.chg h hc hp
 ·exact OwnS.chg h hc hp
 ·exact OwnS.chg h hc hp
 ·exact OwnS.chg h hc hp
 ·exact KidsU.chg h hc hp
 ·exact OwnS.chg h hc hp
 ·exact OwnS.chg h hc hp
 ·trivial
theorem NodA.parts {n : Nat} {w : World} {F : Nat → Prop} {N : NodV} {D : Nd} (h : NodA (n + 1) w F N D) : ∃ A : Nat → Nat → Prop, (∀ s t g, A s g → A t g → s = t) ∧ (∀ s g, A s g → F g) ∧ ∀ r, nP n (nS A N) N D w r := by
 obtain ⟨A, h1, h2, o1, o2, o3, o4, o5, o6⟩ := h
 have p1 := MacD.parts (S := fun q => nS A N (q + 1)) o2 (fun r g hr ha hm => ⟨by omega, by rw [show cd (r + 1) = 1 by unfold cd; (repeat' split) <;> omega]; exact ha, fun _ _ => hm, fun e => absurd e (by omega)⟩)
 have p2 := MacD.parts (S := fun q => nS A N (q + 9)) o6 (fun r g hr ha hm => ⟨by omega, by rw [show cd (r + 9) = 5 by unfold cd; (repeat' split) <;> omega]; exact ha, fun _ e => absurd e (by omega), fun _ => hm⟩)
 refine ⟨A, h1, h2, fun r => ?_⟩
 rcases r with _ | _ | _ | _ | _ | _ | _ | _ | _ | _ | _ | _ | _ | _ | r
 ·exact ⟨o1.1, fun g hg => ⟨by omega, o1.2 g hg, fun e => absurd e (by omega), fun e => absurd e (by omega)⟩⟩
 ·exact p1 0
 ·exact p1 1
 ·exact p1 2
 ·exact p1 3
 ·exact p1 4
 ·exact ⟨o3.1, fun g hg => ⟨by omega, o3.2 g hg, fun _ e => absurd e (by omega), fun e => absurd e (by omega)⟩⟩
 ·exact ⟨o4.1, fun g hg => ⟨by omega, o4.2 g hg, fun _ e => absurd e (by omega), fun e => absurd e (by omega)⟩⟩
 ·exact ⟨o5.1, fun g hg => ⟨by omega, o5.2 g hg, fun _ e => absurd e (by omega), fun e => absurd e (by omega)⟩⟩
 ·exact p2 0
 ·exact p2 1
 ·exact p2 2
 ·exact p2 3
 ·exact p2 4
 ·trivial
theorem nP.at {n : Nat} {S : Nat → Nat → Prop} {N N' : NodV} {D : Nd} {w : World} (h : ∀ r, r < 14 → nP n S N D w r) (hl : N'.lv = N.lv) (hs : N'.s = ⟨⟨D.T1.leaf, N.s.x.p, N.s.x.c, N.s.x.k, N.s.x.b⟩, N.s.v⟩) (hv : N'.vv = N.vv) (hn : N'.nv = N.nv) (hm : N'.mv = N.mv) (ho : N'.o = ⟨⟨D.T2.leaf, N.o.x.p, N.o.x.c, N.o.x.k, N.o.x.b⟩, N.o.v⟩) : NodAt (n + 1) w N' D := by
 have a0 : OwnS w (S 0) _ _ _ _ _ := h 0 (by omega)
 have a6 : OwnS w (S 6) _ _ _ _ _ := h 6 (by omega)
 have a7 : OwnS w (S 7) _ _ _ _ _ := h 7 (by omega)
 have a8 : OwnS w (S 8) _ _ _ _ _ := h 8 (by omega)
 refine ⟨by rw [hl]; exact a0.1.rowF.row, ?_, by rw [hv]; exact a6.1.rowF.row, by rw [hn]; exact a7.1.rowF.row, by rw [hm]; exact a8.1.rowF.row, ?_⟩
 ·exact mP.at (S := fun q => S (q + 1)) (m := N.s) (h 1 (by omega)) (h 2 (by omega)) (h 3 (by omega)) (h 4 (by omega)) (h 5 (by omega)) hs
 ·exact mP.at (S := fun q => S (q + 9)) (m := N.o) (h 9 (by omega)) (h 10 (by omega)) (h 11 (by omega)) (h 12 (by omega)) (h 13 (by omega)) ho
end
section
open Go.RowKit

def doneAt (l : DL) (k : Nat) : Bool := inB (dC l k) 1 9 && inB (dS l k) 1 100000 && inB (dV l k) (-1000000000) 1000000000 && (k == 0 || decide (dC l (k - 1) < dC l k))
def donesOk (l : DL) : Bool := (List.range l.length).all (doneAt l)
theorem donesOk_true {l : DL} (h : ∀ k, k < l.length → doneAt l k = true) : donesOk l = true := by
 unfold donesOk; rw [List.all_eq_true]; intro k hk; exact h k (List.mem_range.1 hk)
theorem donesOk_false {l : DL} {k : Nat} (hk : k < l.length) (h : doneAt l k = false) : donesOk l = false := by
 unfold donesOk; rw [List.all_eq_false]; exact ⟨k, List.mem_range.2 hk, by simp [h]⟩
theorem doneAt_c {l : DL} {k : Nat} (h : inB (dC l k) 1 9 = false) : doneAt l k = false := by simp [doneAt, h]
theorem doneAt_s {l : DL} {k : Nat} (h : inB (dS l k) 1 100000 = false) : doneAt l k = false := by simp [doneAt, h]
theorem doneAt_v {l : DL} {k : Nat} (h : inB (dV l k) (-1000000000) 1000000000 = false) : doneAt l k = false := by simp [doneAt, h]
theorem doneAt_zero {l : DL} (h1 : inB (dC l 0) 1 9 = true) (h2 : inB (dS l 0) 1 100000 = true) (h3 : inB (dV l 0) (-1000000000) 1000000000 = true) : doneAt l 0 = true := by simp [doneAt, h1, h2, h3]
theorem doneAt_succ {l : DL} {k : Nat} (h1 : inB (dC l (k + 1)) 1 9 = true) (h2 : inB (dS l (k + 1)) 1 100000 = true) (h3 : inB (dV l (k + 1)) (-1000000000) 1000000000 = true) (h : dC l k < dC l (k + 1)) : doneAt l (k + 1) = true := by simp [doneAt, h1, h2, h3, h]
theorem doneAt_lt {l : DL} {k : Nat} (h : ¬ dC l k < dC l (k + 1)) : doneAt l (k + 1) = false := by simp [doneAt]; intros; omega
def machOk (T : Tr) (l : DL) : Bool := okT T && donesOk l

theorem specMachineOk_any (n : Nat) (m : MacV) (T : Tr) (l : DL) (w : World) (h : MacAt n w m T l) (hsz : sizeT n T ≤ 1099511627776) :
  Calls Try.prog 53 #[m.val] w fun e w' => e = .returned (.bool (machOk T l)) ∧ Below w.heap.size w w' := by
 obtain ⟨a, b, off, cap, hv, hcap, hmax, ha, hx0, hx1, hx2, hx3⟩ := h.2.dones
 obtain ⟨⟨lf, p, c, k, bf⟩, v⟩ := m
 simp only at hv
 subst hv
 unfold maxLen at hmax
 have TT : Hid (TreeAt n w ⟨lf, p, c, k, bf⟩ T) := h.1
 have N1 : Hid (MBox 45 (w.alloc (.cells #[.bool lf, p, c, k, bf, .slice a l.length cap] 45)) w.heap.size #[.bool lf, p, c, k, bf, .slice a l.length cap]) := MBox.start _ w _
 have B1 : Hid (Below w.heap.size w (w.alloc (.cells #[.bool lf, p, c, k, bf, .slice a l.length cap] 45))) := bel_nw _ _
 clear h
 show Calls Try.prog 53 #[.agg #[.bool lf, p, c, k, bf, .slice a l.length cap]] w _
 go_enter Try.func53, Try.ntmps53
 go_upto_region 1 with fail
 generalize w.alloc (.cells #[.bool lf, p, c, k, bf, .slice a l.length cap] 45) = W at *
 go_wp2
 go_loopw [3] (fun i wr => ∃ j : Nat, j ≤ l.length ∧ i = .int .i64 j ∧ Hid (∀ i, i < j → doneAt l i = true) ∧ Hid (Below W.heap.size W wr))
  (fun i _ => l.length - (intOf i).toNat)
 case atStart => exact ⟨0, Nat.zero_le _, rfl, fun i hi => absurd hi (Nat.not_lt_zero _), Below.refl _ _⟩
 case round =>
  obtain ⟨j, hjl, rfl, ALL, hbW⟩ := hrel
  have c1 := (N1.out.step hbW.out).cells
  have hb : Hid (Below w.heap.size w wr) := Below.and B1.out hbW.out
  by_cases hlt : j < l.length
  ·have hal := ha (by omega)
   subst hal
   have d0 : wr.cell? ⟨b, off + j * 4, none⟩ = some (.int .i64 (dC l j)) := (hb.out.cell (by exact cell_lt (hx0 j hlt))).trans (hx0 j hlt)
   have d1 : wr.cell? ⟨b, off + j * 4 + 1, none⟩ = some (.int .i64 (dS l j)) := (hb.out.cell (by exact cell_lt (hx1 j hlt))).trans (hx1 j hlt)
   have d2 : wr.cell? ⟨b, off + j * 4 + 2, none⟩ = some (.int .i64 (dV l j)) := (hb.out.cell (by exact cell_lt (hx2 j hlt))).trans (hx2 j hlt)
   have d3 : wr.cell? ⟨b, off + j * 4 + 3, none⟩ = some (.bool (dH l j)) := (hb.out.cell (by exact cell_lt (hx3 j hlt))).trans (hx3 j hlt)
   have NB : Hid (Below wr.heap.size wr (wr.alloc (.cells #[.int .i64 (dC l j), .int .i64 (dS l j), .int .i64 (dV l j), .bool (dH l j)] 78))) := bel_nw _ _
   have NX : Hid (MBox 78 (wr.alloc (.cells #[.int .i64 (dC l j), .int .i64 (dS l j), .int .i64 (dV l j), .bool (dH l j)] 78)) wr.heap.size #[.int .i64 (dC l j), .int .i64 (dS l j), .int .i64 (dV l j), .bool (dH l j)]) := MBox.start _ wr _
   go_upto_region 5 with fail
   generalize wr.alloc (.cells #[.int .i64 (dC l j), .int .i64 (dS l j), .int .i64 (dV l j), .bool (dH l j)] 78) = V at *
   generalize hbx : wr.heap.size = bx at *
   have e0 := NX.out.cells
   have c2 := (N1.out.step (hbW.out.trans (NB.out.mono (by rw [← hbx]; exact hbW.out.size)))).cells
   have FV : Hid (Below W.heap.size W V) := hbW.out.trans (NB.out.mono (by rw [← hbx]; exact hbW.out.size))
   have FB : Hid (Below w.heap.size w V) := Below.and B1.out FV.out
   clear c1 d0 d1 d2 d3
   cases hK : inB (dC l j) 1 9
   ·have NE : Hid (machOk T l = false) := by show _ = _; rw [machOk, donesOk_false hlt (doneAt_c hK), Bool.and_false]
    clear hx0 hx1 hx2 hx3
    go_wp2_with fail
    go_quiet (first | (go_at_call 9; exact Calls.quiet_of_same (l1In_any _ _ _ _)) | (go_at_call 64; exact Calls.quiet_of_same (l1Value_any _ _)))
    go_wp2
    go_ret
    exact ⟨ret_bool NE.out.symm, below_drewN FB.out _⟩
   ·cases hS : inB (dS l j) 1 100000
    ·have NE : Hid (machOk T l = false) := by show _ = _; rw [machOk, donesOk_false hlt (doneAt_s hS), Bool.and_false]
     clear hx0 hx1 hx2 hx3
     go_wp2_with fail
     go_quiet (first | (go_at_call 9; exact Calls.quiet_of_same (l1In_any _ _ _ _)) | (go_at_call 64; exact Calls.quiet_of_same (l1Value_any _ _)))
     go_wp2
     go_ret
     exact ⟨ret_bool NE.out.symm, below_drewN FB.out _⟩
    ·cases hV : inB (dV l j) (-1000000000) 1000000000
     ·have NE : Hid (machOk T l = false) := by show _ = _; rw [machOk, donesOk_false hlt (doneAt_v hV), Bool.and_false]
      clear hx0 hx1 hx2 hx3
      go_wp2_with fail
      go_quiet (first | (go_at_call 9; exact Calls.quiet_of_same (l1In_any _ _ _ _)) | (go_at_call 64; exact Calls.quiet_of_same (l1Value_any _ _)))
      go_wp2
      go_ret
      exact ⟨ret_bool NE.out.symm, below_drewN FB.out _⟩
     ·cases j with
      | zero =>
       have OK : Hid (doneAt l 0 = true) := doneAt_zero hK hS hV
       clear hx0 hx1 hx2 hx3
       go_wp2_with fail
       go_quiet (first | (go_at_call 9; exact Calls.quiet_of_same (l1In_any _ _ _ _)) | (go_at_call 64; exact Calls.quiet_of_same (l1Value_any _ _)))
       go_wp2
       go_roundw
       case rel => exact ⟨1, by omega, by go_num, fun i hi => by rw [show i = 0 by omega]; exact OK.out, below_drewN FV.out _⟩
       case measure => simp [intOf]; omega
      | succ j =>
       have hpos : (0 : Int) < ((j + 1 : Nat) : Int) := by omega
       have g2 : V.cell? ⟨b, off + j * 4, none⟩ = some (.int .i64 (dC l j)) := (FB.out.cell (by exact cell_lt (hx0 j (by omega)))).trans (hx0 j (by omega))
       clear hx0 hx1 hx2 hx3
       by_cases hord : dC l j < dC l (j + 1)
       ·have OK : Hid (doneAt l (j + 1) = true) := doneAt_succ hK hS hV hord
        go_wp2_with fail
        go_quiet (first | (go_at_call 9; exact Calls.quiet_of_same (l1In_any _ _ _ _)) | (go_at_call 64; exact Calls.quiet_of_same (l1Value_any _ _)))
        go_wp2
        go_roundw
        case rel => exact ⟨j + 1 + 1, by omega, by go_num, fun i hi => if h : i < j + 1 then ALL.out i h else by rw [show i = j + 1 by omega]; exact OK.out, below_drewN FV.out _⟩
        case measure => simp [intOf]; omega
       ·have NE : Hid (machOk T l = false) := by show _ = _; rw [machOk, donesOk_false hlt (doneAt_lt hord), Bool.and_false]
        go_wp2_with fail
        go_quiet (first | (go_at_call 9; exact Calls.quiet_of_same (l1In_any _ _ _ _)) | (go_at_call 64; exact Calls.quiet_of_same (l1Value_any _ _)))
        go_wp2
        go_ret
        exact ⟨ret_bool NE.out.symm, below_drewN FB.out _⟩
  ·have OK : Hid (machOk T l = okT T) := by show _ = _; rw [machOk, donesOk_true (fun i hi => ALL.out i (by omega)), Bool.and_true]
   clear hx0 hx1 hx2 hx3
   go_wp2_with fail
   refine (specTreeOk_any n ⟨lf, p, c, k, bf⟩ T wr (TT.out.below hb.out) hsz).mono ?_
   rintro e w5 ⟨rfl, b5⟩
   go_wp2
   go_ret
   exact ⟨ret_bool OK.out.symm, Below.and hb.out b5⟩
end
end Go.Proofs.Ytdcladffnjikkaa
