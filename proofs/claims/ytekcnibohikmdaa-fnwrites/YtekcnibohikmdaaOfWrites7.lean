/-
  What comes of a tree that is given messages, as plain functions; shapes and weights.
  Appending a list to a row of one's own, at a step of a region that draws its order.
-/
import Derived.Test.YtekcnibohikmdaaOfWrites6
import Derived.Test.YtekcnibohikmdaaOfWrites1
import Derived.Test.YtekcnibohikmdaaOfWrites2
import Derived.Deep.RegionHeld3
import Derived.Deep.AppendLies
namespace Go.Proofs.Ytekcnibohikmdaa
set_option maxRecDepth 100000
set_option maxHeartbeats 8000000
section
open Go.RowKit

abbrev TM := List Tr × List Int

def mineF (cs : List Int) (i : Nat) (b : ML) : ML := b.filter fun m => decide (prefK cs m.2.1 = i)
def restF (cs : List Int) (i : Nat) (b : ML) : ML := b.filter fun m => !decide (prefK cs m.2.1 = i)
theorem mineF_succ (cs : List Int) (i : Nat) (b : ML) (j : Nat) (h : j < b.length) : mineF cs i (b.take (j + 1)) = if prefK cs (mK b j) = i then mineF cs i (b.take j) ++ [(mO b j, mK b j, mV b j)] else mineF cs i (b.take j) := by
 rw [take_succM b j h, mineF, List.filter_append]
 by_cases hq : prefK cs (mK b j) = i
 ·rw [if_pos hq]; simp [mineF, hq]
 ·rw [if_neg hq]; simp [mineF, hq]
theorem restF_succ (cs : List Int) (i : Nat) (b : ML) (j : Nat) (h : j < b.length) : restF cs i (b.take (j + 1)) = if prefK cs (mK b j) = i then restF cs i (b.take j) else restF cs i (b.take j) ++ [(mO b j, mK b j, mV b j)] := by
 rw [take_succM b j h, restF, List.filter_append]
 by_cases hq : prefK cs (mK b j) = i
 ·rw [if_pos hq]; simp [restF, hq]
 ·rw [if_neg hq]; simp [restF, hq]
theorem mine_rest (cs : List Int) (i : Nat) (b : ML) : (mineF cs i b).length + (restF cs i b).length = b.length := by
 induction b with
 | nil => rfl
 | cons a l ih =>
  unfold mineF restF at *
  by_cases h : prefK cs a.2.1 = i <;> simp [h] <;> omega
theorem mineF_length (cs : List Int) (i : Nat) (b : ML) : (mineF cs i b).length ≤ b.length := List.length_filter_le _ _
theorem restF_length (cs : List Int) (i : Nat) (b : ML) : (restF cs i b).length ≤ b.length := List.length_filter_le _ _
def mineSum (cs : List Int) (b : ML) : Nat → Nat
 | 0 => 0
 | k + 1 => mineSum cs b k + (mineF cs k b).length
theorem mineSum_le (cs : List Int) (b : ML) (n : Nat) : mineSum cs b n ≤ b.length := by
 have key : ∀ n, mineSum cs b n = (b.filter fun m => decide (prefK cs m.2.1 < n)).length := by
  intro n
  induction n with
  | zero =>
   rw [mineSum, List.filter_eq_nil_iff.2 (fun a _ => by simp)]
   rfl
  | succ n ih =>
   rw [mineSum, ih, mineF]
   clear ih
   induction b with
   | nil => rfl
   | cons a l ih =>
    rcases Nat.lt_trichotomy (prefK cs a.2.1) n with h | h | h
    ·simp [show prefK cs a.2.1 < n from h, show ¬ prefK cs a.2.1 = n by omega, show prefK cs a.2.1 < n + 1 by omega]; omega
    ·simp [h]; omega
    ·simp [show ¬ prefK cs a.2.1 < n by omega, show ¬ prefK cs a.2.1 = n by omega, show ¬ prefK cs a.2.1 < n + 1 by omega]; omega
 rw [key]
 exact List.length_filter_le _ _

def mostTo (cs : List Int) (b : ML) : Nat → Nat × Int
 | 0 => (0, -1)
 | k + 1 => if (mostTo cs b k).2 < ((mineF cs k b).length : Int) then (k, ((mineF cs k b).length : Int)) else mostTo cs b k
theorem mostTo_is (cs : List Int) (b : ML) : ∀ n, 0 < n → (mostTo cs b n).1 < n ∧ (mostTo cs b n).2 = ((mineF cs (mostTo cs b n).1 b).length : Int) := by
 intro n hn
 induction n with
 | zero => omega
 | succ n ih =>
  rw [mostTo]
  by_cases h : (mostTo cs b n).2 < ((mineF cs n b).length : Int)
  ·rw [if_pos h]; exact ⟨Nat.lt_succ_self _, rfl⟩
  ·rw [if_neg h]
   rcases Nat.eq_zero_or_pos n with h0 | h0
   ·subst h0
    exfalso
    apply h
    simp only [mostTo]
    omega
   ·exact ⟨Nat.lt_succ_of_lt (ih h0).1, (ih h0).2⟩
theorem mostTo_ge (cs : List Int) (b : ML) : ∀ n i, i < n → ((mineF cs i b).length : Int) ≤ (mostTo cs b n).2 := by
 intro n
 induction n with
 | zero => intro i h; omega
 | succ n ih =>
  intro i hi
  rw [mostTo]
  by_cases h : (mostTo cs b n).2 < ((mineF cs n b).length : Int)
  ·rw [if_pos h]
   by_cases hin : i = n
   ·subst hin; exact Int.le_refl _
   ·have := ih i (by omega)
    simp only
    omega
  ·rw [if_neg h]
   by_cases hin : i = n
   ·subst hin; omega
   ·exact ih i (by omega)
theorem mostTo_lo (cs : List Int) (b : ML) : ∀ n, -1 ≤ (mostTo cs b n).2 ∧ (mostTo cs b n).2 ≤ b.length ∧ (mostTo cs b n).1 ≤ n := by
 intro n
 rcases Nat.eq_zero_or_pos n with h0 | h0
 ·subst h0; simp [mostTo]
 ·have := mostTo_is cs b n h0
  have := mineF_length cs (mostTo cs b n).1 b
  omega
theorem most_pos {cs : List Int} {b : ML} {n : Nat} (hb : 0 < b.length) (hn : cs.length < n) : 0 < (mineF cs (mostTo cs b n).1 b).length := by
 have h1 := (mostTo_is cs b n (by omega)).2
 have h2 := mostTo_ge cs b n (prefK cs (b[0]'hb).2.1) (by have := prefK_le cs (b[0]'hb).2.1; omega)
 have h3 : 0 < (mineF cs (prefK cs (b[0]'hb).2.1) b).length := by
  apply List.length_pos_of_mem (a := b[0]'hb)
  exact List.mem_filter.2 ⟨List.getElem_mem hb, by simp⟩
 omega

def manyN (r : Nat) : Nat := if r = 3 then 3 else 2
theorem manyN_two (r : Nat) : manyN r = 2 ∨ (manyN r = 3 ∧ r = 3) := by unfold manyN; split <;> simp_all

def leafT (ps : PL) : Tr := ⟨true, ps, [], [], []⟩
def lfTF (ps : PL) : Nat → Nat → List Tr
 | 0, _ => []
 | f + 1, i => if i < ps.length then leafT ((ps.drop i).take (manyN (ps.length - i))) :: lfTF ps f (i + manyN (ps.length - i)) else []
def lfCF (ps : PL) : Nat → Nat → List Int
 | 0, _ => []
 | f + 1, i => if i < ps.length then (if 0 < i then [kOf ps i] else []) ++ lfCF ps f (i + manyN (ps.length - i)) else []
def lfT (ps : PL) (i : Nat) : List Tr := lfTF ps (ps.length - i) i
def lfC (ps : PL) (i : Nat) : List Int := lfCF ps (ps.length - i) i
theorem lfTF_more (ps : PL) : ∀ f g i, ps.length - i ≤ f → ps.length - i ≤ g → lfTF ps f i = lfTF ps g i
 | 0, 0, _, _, _ => rfl
 | 0, g + 1, i, h, _ => by rw [lfTF, lfTF, if_neg (by omega)]
 | f + 1, 0, i, _, h => by rw [lfTF, lfTF, if_neg (by omega)]
 | f + 1, g + 1, i, hf, hg => by
  have := manyN_two (ps.length - i)
  rw [lfTF, lfTF]
  split
  ·rw [lfTF_more ps f g _ (by omega) (by omega)]
  ·rfl
theorem lfCF_more (ps : PL) : ∀ f g i, ps.length - i ≤ f → ps.length - i ≤ g → lfCF ps f i = lfCF ps g i
 | 0, 0, _, _, _ => rfl
 | 0, g + 1, i, h, _ => by rw [lfCF, lfCF, if_neg (by omega)]
 | f + 1, 0, i, _, h => by rw [lfCF, lfCF, if_neg (by omega)]
 | f + 1, g + 1, i, hf, hg => by
  have := manyN_two (ps.length - i)
  rw [lfCF, lfCF]
  split
  ·rw [lfCF_more ps f g _ (by omega) (by omega)]
  ·rfl
theorem lfT_eq (ps : PL) (i : Nat) : lfT ps i = if i < ps.length then leafT ((ps.drop i).take (manyN (ps.length - i))) :: lfT ps (i + manyN (ps.length - i)) else [] := by
 have h2 := manyN_two (ps.length - i)
 unfold lfT
 rw [lfTF_more ps (ps.length - i) (ps.length - i + 1) i (by omega) (by omega), lfTF]
 split
 ·rw [lfTF_more ps (ps.length - i) (ps.length - (i + manyN (ps.length - i))) _ (by omega) (by omega)]
 ·rfl
theorem lfC_eq (ps : PL) (i : Nat) : lfC ps i = if i < ps.length then (if 0 < i then [kOf ps i] else []) ++ lfC ps (i + manyN (ps.length - i)) else [] := by
 have h2 := manyN_two (ps.length - i)
 unfold lfC
 rw [lfCF_more ps (ps.length - i) (ps.length - i + 1) i (by omega) (by omega), lfCF]
 split
 ·rw [lfCF_more ps (ps.length - i) (ps.length - (i + manyN (ps.length - i))) _ (by omega) (by omega)]
 ·rfl
def leafM (ps : PL) : TM := if ps.length ≤ 4 then ([leafT ps], []) else (lfT ps 0, lfC ps 0)

def packT (m : TM) (i : Nat) : Tr := ⟨false, [], (m.2.drop i).take (manyN (m.1.length - i) - 1), (m.1.drop i).take (manyN (m.1.length - i)), []⟩
def pkTF (m : TM) : Nat → Nat → List Tr
 | 0, _ => []
 | f + 1, i => if i < m.1.length then packT m i :: pkTF m f (i + manyN (m.1.length - i)) else []
def pkCF (m : TM) : Nat → Nat → List Int
 | 0, _ => []
 | f + 1, i => if i < m.1.length then (if 0 < i then [iAt m.2 (i - 1)] else []) ++ pkCF m f (i + manyN (m.1.length - i)) else []
def pkT (m : TM) (i : Nat) : List Tr := pkTF m (m.1.length - i) i
def pkC (m : TM) (i : Nat) : List Int := pkCF m (m.1.length - i) i
theorem pkTF_more (m : TM) : ∀ f g i, m.1.length - i ≤ f → m.1.length - i ≤ g → pkTF m f i = pkTF m g i
 | 0, 0, _, _, _ => rfl
 | 0, g + 1, i, h, _ => by rw [pkTF, pkTF, if_neg (by omega)]
 | f + 1, 0, i, _, h => by rw [pkTF, pkTF, if_neg (by omega)]
 | f + 1, g + 1, i, hf, hg => by
  have := manyN_two (m.1.length - i)
  rw [pkTF, pkTF]
  split
  ·rw [pkTF_more m f g _ (by omega) (by omega)]
  ·rfl
theorem pkCF_more (m : TM) : ∀ f g i, m.1.length - i ≤ f → m.1.length - i ≤ g → pkCF m f i = pkCF m g i
 | 0, 0, _, _, _ => rfl
 | 0, g + 1, i, h, _ => by rw [pkCF, pkCF, if_neg (by omega)]
 | f + 1, 0, i, _, h => by rw [pkCF, pkCF, if_neg (by omega)]
 | f + 1, g + 1, i, hf, hg => by
  have := manyN_two (m.1.length - i)
  rw [pkCF, pkCF]
  split
  ·rw [pkCF_more m f g _ (by omega) (by omega)]
  ·rfl
theorem pkT_eq (m : TM) (i : Nat) : pkT m i = if i < m.1.length then packT m i :: pkT m (i + manyN (m.1.length - i)) else [] := by
 have h2 := manyN_two (m.1.length - i)
 unfold pkT
 rw [pkTF_more m (m.1.length - i) (m.1.length - i + 1) i (by omega) (by omega), pkTF]
 split
 ·rw [pkTF_more m (m.1.length - i) (m.1.length - (i + manyN (m.1.length - i))) _ (by omega) (by omega)]
 ·rfl
theorem pkC_eq (m : TM) (i : Nat) : pkC m i = if i < m.1.length then (if 0 < i then [iAt m.2 (i - 1)] else []) ++ pkC m (i + manyN (m.1.length - i)) else [] := by
 have h2 := manyN_two (m.1.length - i)
 unfold pkC
 rw [pkCF_more m (m.1.length - i) (m.1.length - i + 1) i (by omega) (by omega), pkCF]
 split
 ·rw [pkCF_more m (m.1.length - i) (m.1.length - (i + manyN (m.1.length - i))) _ (by omega) (by omega)]
 ·rfl
def packM (m : TM) : TM := (pkT m 0, pkC m 0)

def putM (m : TM) (i : Nat) (x : TM) : TM := (m.1.take i ++ x.1 ++ m.1.drop (i + 1), m.2.take i ++ x.2 ++ m.2.drop i)

def sideT (f : Nat → TM) : Nat → List Tr
 | 0 => []
 | k + 1 => sideT f k ++ (f k).1
def sideC (f : Nat → TM) (cs : List Int) : Nat → List Int
 | 0 => []
 | k + 1 => (sideC f cs k ++ if 0 < k then [iAt cs (k - 1)] else []) ++ (f k).2
def kidM (g : Tr → ML → TM) (m : TM) (b : ML) (i : Nat) : TM := if 0 < (mineF m.2 i b).length then g (m.1.getD i noTr) (mineF m.2 i b) else ([m.1.getD i noTr], [])
def downM (g : Tr → ML → TM) (m : TM) (b : ML) : TM := (sideT (kidM g m b) m.1.length, sideC (kidM g m b) m.2 m.1.length)

def loopM (g : Tr → ML → TM) : Nat → TM → ML → TM × ML
 | 0, m, b => (m, b)
 | f + 1, m, b => if 6 < b.length then loopM g f (putM m (mostTo m.2 b m.1.length).1 (g (m.1.getD (mostTo m.2 b m.1.length).1 noTr) (mineF m.2 (mostTo m.2 b m.1.length).1 b))) (restF m.2 (mostTo m.2 b m.1.length).1 b) else (m, b)

def endM (g : Tr → ML → TM) (r : TM × ML) : TM := if 4 < r.1.1.length then packM (downM g r.1 r.2) else ([⟨false, [], r.1.2, r.1.1, r.2⟩], [])
def giveM : Nat → Tr → ML → TM
 | 0, T, _ => ([T], [])
 | d + 1, T, ms => if T.leaf = true then leafM (allL T.pairs ms) else
   endM (giveM d) (loopM (giveM d) (shrinkF (T.buf ++ ms)).length (T.kids, T.cuts) (shrinkF (T.buf ++ ms)))

def rootM : Nat → TM → Tr
 | 0, m => m.1.getD 0 noTr
 | f + 1, m => if 4 < m.1.length then rootM f (packM m) else if m.1.length = 1 then m.1.getD 0 noTr else ⟨false, [], m.2, m.1, []⟩

def bothM (f : Nat → TM) (m : TM) : TM := (sideT f m.1.length, sideC f m.2 m.1.length)
def endD (o : TM) : TM := if 4 < o.1.length then packM o else ([⟨false, [], o.2, o.1, []⟩], [])
def drainM : Nat → Tr → TM
 | 0, T => ([T], [])
 | d + 1, T => if T.leaf = true then ([T], []) else
   endD (bothM (fun i => drainM d ((downM (giveM d) (T.kids, T.cuts) T.buf).1.getD i noTr)) (downM (giveM d) (T.kids, T.cuts) T.buf))

def shT : Nat → Tr → Prop
 | 0, _ => False
 | d + 1, T => (T.leaf = true ∧ d = 0 ∧ T.pairs.length ≤ 4 ∧ T.cuts = [] ∧ T.kids = [] ∧ T.buf = []) ∨
   (T.leaf = false ∧ T.pairs = [] ∧ 2 ≤ T.kids.length ∧ T.kids.length ≤ 4 ∧ T.cuts.length + 1 = T.kids.length ∧ T.buf.length ≤ 6 ∧ ∀ t ∈ T.kids, shT d t)
def wt : Nat → Tr → Nat
 | 0, _ => 0
 | d + 1, T => if T.leaf = true then 1 else (T.kids.map (wt d)).sum + T.buf.length
def wtL (d : Nat) (ts : List Tr) : Nat := (ts.map (wt d)).sum
theorem wtL_append (d : Nat) (a b : List Tr) : wtL d (a ++ b) = wtL d a + wtL d b := by simp [wtL, List.sum_append]
theorem wtL_one (d : Nat) (t : Tr) : wtL d [t] = wt d t := by simp [wtL]
theorem wtL_cons (d : Nat) (t : Tr) (l : List Tr) : wtL d (t :: l) = wt d t + wtL d l := by simp [wtL]
theorem wt_pos : ∀ {d : Nat} {T : Tr}, shT d T → 1 ≤ wt d T
 | 0, _, h => h.elim
 | d + 1, T, h => by
  rcases h with ⟨h, _⟩ | ⟨h1, _, h2, _, _, _, h3⟩
  ·rw [wt, if_pos h]; exact Nat.le_refl _
  ·rw [wt, if_neg (by rw [h1]; simp)]
   match hk : T.kids with
   | [] => rw [hk] at h2; simp at h2
   | t :: l =>
    have := wt_pos (h3 t (by rw [hk]; simp))
    simp only [List.map_cons, List.sum_cons]
    omega
theorem wtL_length {d : Nat} : ∀ {ts : List Tr}, (∀ t ∈ ts, shT d t) → ts.length ≤ wtL d ts
 | [], _ => Nat.le_refl _
 | t :: l, h => by
  have := wt_pos (h t (by simp))
  have := wtL_length (ts := l) (fun u hu => h u (by simp [hu]))
  rw [wtL_cons]
  simp only [List.length_cons]
  omega

def MOk (d : Nat) (m : TM) : Prop := m.2.length + 1 = m.1.length ∧ ∀ t ∈ m.1, shT d t
theorem MOk.one {d : Nat} {t : Tr} (h : shT d t) : MOk d ([t], []) := ⟨rfl, fun u hu => by simp at hu; subst hu; exact h⟩
theorem getD_mem {l : List Tr} {i : Nat} (h : i < l.length) : l.getD i noTr ∈ l := by
 simp [List.getD, h]

theorem leafT_sh {ps : PL} (h : ps.length ≤ 4) : shT 1 (leafT ps) := .inl ⟨rfl, rfl, h, rfl, rfl, rfl⟩
theorem lf_ok (ps : PL) : ∀ n i, ps.length - i ≤ n → (2 ≤ ps.length - i ∨ ps.length ≤ i) → (∀ t ∈ lfT ps i, shT 1 t) ∧ (lfT ps i).length * 2 ≤ ps.length - i ∧ wtL 1 (lfT ps i) = (lfT ps i).length ∧ (lfC ps i).length + (if i = 0 ∧ 0 < ps.length then 1 else 0) = (lfT ps i).length := by
 intro n
 induction n with
 | zero =>
  intro i h h2
  rw [lfT_eq, lfC_eq, if_neg (show ¬ i < ps.length by omega), if_neg (show ¬ i < ps.length by omega), if_neg (show ¬ (i = 0 ∧ 0 < ps.length) by omega)]
  exact ⟨fun t ht => by simp at ht, by simp, rfl, rfl⟩
 | succ n ih =>
  intro i h h2
  rw [lfT_eq, lfC_eq]
  by_cases hi : i < ps.length
  ·rw [if_pos hi, if_pos hi]
   have hm := manyN_two (ps.length - i)
   obtain ⟨k1, k2, k3, k4⟩ := ih (i + manyN (ps.length - i)) (by omega) (by
    rcases hm with e | ⟨e, e2⟩
    ·rw [e]
     have : manyN (ps.length - i) ≠ 3 := by omega
     have : ps.length - i ≠ 3 := fun h3 => by rw [h3] at this; exact this rfl
     omega
    ·omega)
   refine ⟨fun t ht => ?_, ?_, ?_, ?_⟩
   ·rcases List.mem_cons.1 ht with rfl | ht
    ·exact leafT_sh (by simp; omega)
    ·exact k1 t ht
   ·simp only [List.length_cons]; omega
   ·rw [wtL_cons, k3]; simp [wt, leafT]; omega
   ·simp only [List.length_cons, List.length_append]
    rw [if_neg (by omega)] at k4
    by_cases h0 : i = 0
    ·subst h0; simp [hi] at *; omega
    ·rw [if_pos (Nat.pos_of_ne_zero h0), if_neg (by omega)]; simp; omega
  ·rw [if_neg hi, if_neg hi, if_neg (show ¬ (i = 0 ∧ 0 < ps.length) by omega)]
   exact ⟨fun t ht => by simp at ht, by simp, rfl, rfl⟩
theorem leafM_ok {ps : PL} {L : Nat} (h : ps.length ≤ 4 + L) (hL : 0 < L) : MOk 1 (leafM ps) ∧ wtL 1 (leafM ps).1 ≤ 1 + L := by
 unfold leafM
 by_cases h4 : ps.length ≤ 4
 ·rw [if_pos h4]
  exact ⟨MOk.one (leafT_sh h4), by simp only [wtL_one, wt, leafT, if_true]; omega⟩
 ·rw [if_neg h4]
  obtain ⟨k1, k2, k3, k4⟩ := lf_ok ps ps.length 0 (by omega) (by omega)
  rw [if_pos ⟨rfl, by omega⟩] at k4
  exact ⟨⟨k4, k1⟩, by simp only; rw [k3]; omega⟩

theorem pk_ok {d : Nat} {m : TM} (hm : MOk d m) : ∀ n i, m.1.length - i ≤ n → (2 ≤ m.1.length - i ∨ m.1.length ≤ i) → (∀ t ∈ pkT m i, shT (d + 1) t) ∧ (pkT m i).length * 2 ≤ m.1.length - i ∧ wtL (d + 1) (pkT m i) = wtL d (m.1.drop i) ∧ (pkC m i).length + (if i = 0 ∧ 0 < m.1.length then 1 else 0) = (pkT m i).length := by
 intro n
 induction n with
 | zero =>
  intro i h h2
  rw [pkT_eq, pkC_eq, if_neg (show ¬ i < m.1.length by omega), if_neg (show ¬ i < m.1.length by omega), if_neg (show ¬ (i = 0 ∧ 0 < m.1.length) by omega), List.drop_eq_nil_of_le (by omega)]
  exact ⟨fun t ht => by simp at ht, by simp, rfl, rfl⟩
 | succ n ih =>
  intro i h h2
  rw [pkT_eq, pkC_eq]
  by_cases hi : i < m.1.length
  ·rw [if_pos hi, if_pos hi]
   have hmn := manyN_two (m.1.length - i)
   obtain ⟨k1, k2, k3, k4⟩ := ih (i + manyN (m.1.length - i)) (by omega) (by
    rcases hmn with e | ⟨e, e2⟩
    ·rw [e]
     have : manyN (m.1.length - i) ≠ 3 := by omega
     have : m.1.length - i ≠ 3 := fun h3 => by rw [h3] at this; exact this rfl
     omega
    ·omega)
   refine ⟨fun t ht => ?_, ?_, ?_, ?_⟩
   ·rcases List.mem_cons.1 ht with rfl | ht
    ·refine .inr ⟨rfl, rfl, ?_, ?_, ?_, Nat.zero_le _, fun u hu => ?_⟩
     ·simp [packT]; omega
     ·simp [packT]; omega
     ·have := hm.1
      simp [packT]; omega
     ·exact hm.2 u (List.mem_of_mem_drop (List.mem_of_mem_take hu))
    ·exact k1 t ht
   ·simp only [List.length_cons]; omega
   ·rw [wtL_cons, k3, show wt (d + 1) (packT m i) = wtL d ((m.1.drop i).take (manyN (m.1.length - i))) by simp [wt, packT, wtL], ← wtL_append]
    rw [show m.1.drop (i + manyN (m.1.length - i)) = (m.1.drop i).drop (manyN (m.1.length - i)) by rw [List.drop_drop], List.take_append_drop]
   ·simp only [List.length_cons, List.length_append]
    rw [if_neg (by omega)] at k4
    by_cases h0 : i = 0
    ·subst h0; simp [hi] at *; omega
    ·rw [if_pos (Nat.pos_of_ne_zero h0), if_neg (by omega)]; simp; omega
  ·rw [if_neg hi, if_neg hi, if_neg (show ¬ (i = 0 ∧ 0 < m.1.length) by omega), List.drop_eq_nil_of_le (by omega)]
   exact ⟨fun t ht => by simp at ht, by simp, rfl, rfl⟩
theorem packM_ok {d : Nat} {m : TM} (hm : MOk d m) (h2 : 2 ≤ m.1.length) : MOk (d + 1) (packM m) ∧ wtL (d + 1) (packM m).1 = wtL d m.1 ∧ (packM m).1.length * 2 ≤ m.1.length := by
 obtain ⟨k1, k2, k3, k4⟩ := pk_ok hm m.1.length 0 (by omega) (by omega)
 rw [if_pos ⟨rfl, by omega⟩] at k4
 exact ⟨⟨k4, k1⟩, k3, k2⟩

theorem putM_ok {d : Nat} {m x : TM} {i : Nat} (hm : MOk d m) (hx : MOk d x) (hi : i < m.1.length) : MOk d (putM m i x) ∧ wtL d (putM m i x).1 + wt d (m.1.getD i noTr) = wtL d m.1 + wtL d x.1 ∧ (putM m i x).1.length + 1 = m.1.length + x.1.length := by
 obtain ⟨h1, h2⟩ := hm
 obtain ⟨h3, h4⟩ := hx
 refine ⟨⟨?_, fun t ht => ?_⟩, ?_, ?_⟩
 ·simp [putM]; omega
 ·simp only [putM, List.mem_append] at ht
  rcases ht with (ht | ht) | ht
  ·exact h2 t (List.mem_of_mem_take ht)
  ·exact h4 t ht
  ·exact h2 t (List.mem_of_mem_drop ht)
 ·have e : m.1 = m.1.take i ++ [m.1.getD i noTr] ++ m.1.drop (i + 1) := by
   have : m.1.getD i noTr = m.1[i] := by simp [List.getD, hi]
   rw [this, List.append_assoc, List.singleton_append, ← List.drop_eq_getElem_cons hi, List.take_append_drop]
  have e2 : wtL d m.1 = wtL d (m.1.take i) + wt d (m.1.getD i noTr) + wtL d (m.1.drop (i + 1)) := by
   conv => lhs; rw [e]
   rw [wtL_append, wtL_append, wtL_one]
  rw [e2, putM]
  simp only
  rw [wtL_append, wtL_append]
  omega
 ·simp [putM]; omega

theorem side_ok {d : Nat} {m : TM} (f : Nat → TM) (a : Nat → Nat) (hf : ∀ i, i < m.1.length → MOk d (f i) ∧ wtL d (f i).1 ≤ wt d (m.1.getD i noTr) + a i) :
  ∀ k, k ≤ m.1.length → (∀ t ∈ sideT f k, shT d t) ∧ (sideC f m.2 k).length + (if k = 0 then 0 else 1) = (sideT f k).length ∧ wtL d (sideT f k) ≤ wtL d (m.1.take k) + ((List.range k).map a).sum ∧ k ≤ (sideT f k).length := by
 intro k
 induction k with
 | zero => intro _; exact ⟨fun t ht => by simp [sideT] at ht, rfl, by simp [sideT, wtL], Nat.le_refl _⟩
 | succ k ih =>
  intro hk
  obtain ⟨k1, k2, k3, k4⟩ := ih (by omega)
  obtain ⟨⟨f1, f2⟩, f3⟩ := hf k (by omega)
  refine ⟨fun t ht => ?_, ?_, ?_, ?_⟩
  ·rcases List.mem_append.1 ht with ht | ht
   ·exact k1 t ht
   ·exact f2 t ht
  ·simp only [sideC, sideT, List.length_append]
   rw [if_neg (Nat.succ_ne_zero k)]
   by_cases h0 : k = 0
   ·subst h0; simp [sideC, sideT] at *; omega
   ·rw [if_neg h0] at k2
    rw [if_pos (Nat.pos_of_ne_zero h0)]; simp; omega
  ·rw [sideT, wtL_append, List.take_succ_eq_append_getElem (show k < m.1.length by omega), wtL_append, wtL_one, List.range_succ, List.map_append, List.sum_append]
   rw [show m.1.getD k noTr = m.1[k] by simp [List.getD, show k < m.1.length by omega]] at f3
   simp only [List.map_cons, List.map_nil, List.sum_cons, List.sum_nil]
   omega
  ·simp only [sideT, List.length_append]; omega
theorem bothM_ok {d : Nat} {m : TM} (hm : MOk d m) (f : Nat → TM) (a : Nat → Nat) (hf : ∀ i, i < m.1.length → MOk d (f i) ∧ wtL d (f i).1 ≤ wt d (m.1.getD i noTr) + a i) : MOk d (bothM f m) ∧ wtL d (bothM f m).1 ≤ wtL d m.1 + ((List.range m.1.length).map a).sum ∧ m.1.length ≤ (bothM f m).1.length := by
 obtain ⟨k1, k2, k3, k4⟩ := side_ok f a hf m.1.length (Nat.le_refl _)
 have := hm.1
 rw [if_neg (by omega)] at k2
 rw [List.take_of_length_le (Nat.le_refl _)] at k3
 exact ⟨⟨k2, k1⟩, k3, k4⟩
theorem downM_both (g : Tr → ML → TM) (m : TM) (b : ML) : downM g m b = bothM (kidM g m b) m := rfl

def Keeps (d : Nat) (g : Tr → ML → TM) : Prop := ∀ T ms, shT d T → 0 < ms.length → MOk d (g T ms) ∧ wtL d (g T ms).1 ≤ wt d T + ms.length
theorem mineSum_range (cs : List Int) (b : ML) : ∀ n, ((List.range n).map fun i => (mineF cs i b).length).sum = mineSum cs b n
 | 0 => rfl
 | n + 1 => by rw [List.range_succ, List.map_append, List.sum_append, mineSum_range cs b n]; simp [mineSum]
theorem kidM_ok {d : Nat} {g : Tr → ML → TM} (hg : Keeps d g) {m : TM} (hm : MOk d m) (b : ML) : ∀ i, i < m.1.length → MOk d (kidM g m b i) ∧ wtL d (kidM g m b i).1 ≤ wt d (m.1.getD i noTr) + (mineF m.2 i b).length := by
 intro i hi
 unfold kidM
 by_cases h : 0 < (mineF m.2 i b).length
 ·rw [if_pos h]
  exact hg _ _ (hm.2 _ (getD_mem hi)) h
 ·rw [if_neg h]
  exact ⟨MOk.one (hm.2 _ (getD_mem hi)), by simp only [wtL_one]; omega⟩
theorem downM_ok {d : Nat} {g : Tr → ML → TM} (hg : Keeps d g) {m : TM} (hm : MOk d m) (b : ML) : MOk d (downM g m b) ∧ wtL d (downM g m b).1 ≤ wtL d m.1 + b.length ∧ m.1.length ≤ (downM g m b).1.length := by
 obtain ⟨k1, k2, k3⟩ := bothM_ok hm (kidM g m b) (fun i => (mineF m.2 i b).length) (kidM_ok hg hm b)
 rw [mineSum_range] at k2
 have := mineSum_le m.2 b m.1.length
 rw [downM_both]
 exact ⟨k1, by omega, k3⟩

theorem loopM_ok {d : Nat} {g : Tr → ML → TM} (hg : Keeps d g) : ∀ f m b, MOk d m → b.length ≤ f → MOk d (loopM g f m b).1 ∧ wtL d (loopM g f m b).1.1 + (loopM g f m b).2.length ≤ wtL d m.1 + b.length ∧ m.1.length ≤ (loopM g f m b).1.1.length ∧ (loopM g f m b).2.length ≤ 6
 | 0, m, b, hm, hb => ⟨hm, Nat.le_refl _, Nat.le_refl _, by simp only [loopM]; omega⟩
 | f + 1, m, b, hm, hb => by
  rw [loopM]
  by_cases h : 6 < b.length
  ·rw [if_pos h]
   have hp := most_pos (cs := m.2) (b := b) (n := m.1.length) (by omega) (by have := hm.1; omega)
   have hi := (mostTo_is m.2 b m.1.length (by have := hm.1; omega)).1
   generalize (mostTo m.2 b m.1.length).1 = i at *
   have hk := hg _ _ (hm.2 _ (getD_mem hi)) hp
   have hmr := mine_rest m.2 i b
   have hpm := putM_ok hm hk.1 hi
   have hlen := hk.1.1
   obtain ⟨k1, k2, k3, k4⟩ := loopM_ok hg f _ (restF m.2 i b) hpm.1 (by omega)
   exact ⟨k1, by omega, by omega, k4⟩
  ·rw [if_neg h]
   exact ⟨hm, Nat.le_refl _, Nat.le_refl _, by simp only; omega⟩

theorem giveM_ok : ∀ d, Keeps d (giveM d)
 | 0 => fun _ _ h _ => h.elim
 | d + 1 => fun T ms h hms => by
  rcases h with ⟨h1, rfl, h2, _⟩ | ⟨h1, _, h2, h3, h4, h5, h6⟩
  ·rw [giveM, if_pos h1]
   have := allL_length T.pairs ms
   obtain ⟨k1, k2⟩ := leafM_ok (ps := allL T.pairs ms) (L := ms.length) (by omega) hms
   exact ⟨k1, by rw [wt, if_pos h1]; exact k2⟩
  ·rw [giveM, if_neg (by rw [h1]; simp)]
   have hl := shrinkF_length (T.buf ++ ms)
   rw [List.length_append] at hl
   obtain ⟨k1, k2, k3, k4⟩ := loopM_ok (giveM_ok d) _ (T.kids, T.cuts) (shrinkF (T.buf ++ ms)) ⟨h4, h6⟩ (Nat.le_refl _)
   generalize loopM (giveM d) (shrinkF (T.buf ++ ms)).length (T.kids, T.cuts) (shrinkF (T.buf ++ ms)) = r at *
   have hw : wt (d + 1) T = wtL d T.kids + T.buf.length := by rw [wt, if_neg (by rw [h1]; simp)]; rfl
   simp only at k2 k3
   unfold endM
   by_cases hr : 4 < r.1.1.length
   ·rw [if_pos hr]
    obtain ⟨q1, q2, q3⟩ := downM_ok (giveM_ok d) k1 r.2
    obtain ⟨p1, p2, _⟩ := packM_ok q1 (by omega)
    exact ⟨p1, by omega⟩
   ·rw [if_neg hr]
    refine ⟨MOk.one (.inr ⟨rfl, rfl, by simp only; omega, by simp only; omega, k1.1, k4, k1.2⟩), ?_⟩
    rw [wtL_one, wt, if_neg (by simp)]
    show wtL d r.1.1 + r.2.length ≤ _
    omega

theorem drainM_ok : ∀ d T, shT d T → MOk d (drainM d T) ∧ wtL d (drainM d T).1 ≤ wt d T
 | 0, _, h => h.elim
 | d + 1, T, h => by
  rcases h with ⟨h1, rfl, h2, h3⟩ | ⟨h1, h0, h2, h3, h4, h5, h6⟩
  ·rw [drainM, if_pos h1]
   exact ⟨MOk.one (.inl ⟨h1, rfl, h2, h3⟩), by rw [wtL_one]; exact Nat.le_refl _⟩
  ·rw [drainM, if_neg (by rw [h1]; simp)]
   obtain ⟨q1, q2, q3⟩ := downM_ok (giveM_ok d) (m := (T.kids, T.cuts)) ⟨h4, h6⟩ T.buf
   generalize downM (giveM d) (T.kids, T.cuts) T.buf = m at *
   obtain ⟨p1, p2, p3⟩ := bothM_ok q1 (fun i => drainM d (m.1.getD i noTr)) (fun _ => 0) (fun i hi => drainM_ok d _ (q1.2 _ (getD_mem hi)))
   generalize bothM (fun i => drainM d (m.1.getD i noTr)) m = o at *
   have hw : wt (d + 1) T = wtL d T.kids + T.buf.length := by rw [wt, if_neg (by rw [h1]; simp)]; rfl
   have hz : ((List.range m.1.length).map fun _ => 0).sum = 0 := by
    generalize m.1.length = n
    induction n with
    | zero => rfl
    | succ n ih => rw [List.range_succ, List.map_append, List.sum_append, ih]; rfl
   simp only at q2 q3
   unfold endD
   by_cases hr : 4 < o.1.length
   ·rw [if_pos hr]
    obtain ⟨r1, r2, _⟩ := packM_ok p1 (by omega)
    exact ⟨r1, by omega⟩
   ·rw [if_neg hr]
    refine ⟨MOk.one (.inr ⟨rfl, rfl, by simp only; omega, by simp only; omega, p1.1, Nat.zero_le _, p1.2⟩), ?_⟩
    rw [wtL_one, wt, if_neg (by simp)]
    show wtL d o.1 + 0 ≤ _
    omega

theorem rootM_ok : ∀ f d m, MOk d m → m.1.length ≤ f → ∃ e, d ≤ e ∧ e ≤ d + f ∧ shT e (rootM f m) ∧ wt e (rootM f m) ≤ wtL d m.1
 | 0, d, m, hm, hf => absurd hm.1 (by omega)
 | f + 1, d, m, hm, hf => by
  rw [rootM]
  by_cases h : 4 < m.1.length
  ·rw [if_pos h]
   obtain ⟨p1, p2, p3⟩ := packM_ok hm (by omega)
   obtain ⟨e, e1, e2, e3, e4⟩ := rootM_ok f (d + 1) (packM m) p1 (by omega)
   exact ⟨e, by omega, by omega, e3, by omega⟩
  ·rw [if_neg h]
   by_cases h1 : m.1.length = 1
   ·rw [if_pos h1]
    refine ⟨d, Nat.le_refl _, by omega, hm.2 _ (getD_mem (by omega)), ?_⟩
    match hm1 : m.1 with
    | [] => rw [hm1] at h1; simp at h1
    | [t] => simp [wtL]
    | _ :: _ :: _ => rw [hm1] at h1; simp at h1
   ·rw [if_neg h1]
    have := hm.1
    refine ⟨d + 1, by omega, by omega, .inr ⟨rfl, rfl, by simp only; omega, by simp only; omega, hm.1, Nat.zero_le _, hm.2⟩, ?_⟩
    rw [wt, if_neg (by simp)]
    exact Nat.le_refl _

theorem sum_le_kids {d : Nat} : ∀ {ts : List Tr}, (∀ t ∈ ts, sizeT d t + 3 ≤ 7 * wt d t) → (ts.map (sizeT d)).sum + 3 * ts.length ≤ 7 * (ts.map (wt d)).sum
 | [], _ => by simp
 | t :: l, h => by
  have h1 := h t (by simp)
  have h2 := sum_le_kids (ts := l) (fun u hu => h u (by simp [hu]))
  simp only [List.map_cons, List.sum_cons, List.length_cons]
  omega
theorem size_wt : ∀ d T, shT d T → sizeT d T + 3 ≤ 7 * wt d T
 | 0, _, h => h.elim
 | d + 1, T, h => by
  rcases h with ⟨h1, rfl, h2, h3, h4, h5⟩ | ⟨h1, h0, h2, h3, h4, h5, h6⟩
  ·rw [wt, if_pos h1, sizeT, h3, h4, h5]
   simp
   omega
  ·rw [wt, if_neg (by rw [h1]; simp), sizeT, h0]
   have := sum_le_kids (fun t ht => size_wt d t (h6 t ht))
   simp only [List.length_nil]
   omega
theorem sum_wt_kids {d c : Nat} : ∀ {ts : List Tr}, (∀ t ∈ ts, wt d t + 2 ≤ c) → (ts.map (wt d)).sum + 2 * ts.length ≤ ts.length * c
 | [], _ => by simp
 | t :: l, h => by
  have h1 := h t (by simp)
  have h2 := sum_wt_kids (ts := l) (fun u hu => h u (by simp [hu]))
  simp only [List.map_cons, List.sum_cons, List.length_cons, Nat.add_mul, Nat.one_mul]
  omega
theorem wt_le : ∀ d T, shT d T → wt d T + 2 ≤ 3 * 4 ^ d
 | 0, _, h => h.elim
 | d + 1, T, h => by
  rcases h with ⟨h1, rfl, _⟩ | ⟨h1, h0, h2, h3, h4, h5, h6⟩
  ·rw [wt, if_pos h1]; decide
  ·rw [wt, if_neg (by rw [h1]; simp), Nat.pow_succ]
   have h7 := sum_wt_kids (fun t ht => wt_le d t (h6 t ht))
   have h8 : T.kids.length * (3 * 4 ^ d) ≤ 4 * (3 * 4 ^ d) := Nat.mul_le_mul_right _ h3
   have h9 : 2 ≤ 3 * 4 ^ d := by have : 0 < 4 ^ d := Nat.pow_pos (by decide); omega
   rcases (show T.kids.length = 2 ∨ T.kids.length = 3 ∨ T.kids.length = 4 by omega) with e | e | e <;> rw [e] at h7 <;> omega

theorem sh_of_depth : ∀ {m : Nat} {T : Tr} {lo up : Int}, depthF m T lo up ≠ 0 → shT (depthF m T lo up) T
 | 0, _, _, _, h => absurd rfl h
 | m + 1, T, lo, up, h => by
  cases hl : T.leaf
  ·have hk := depthF_fork_ok h hl
   have hp := forkOk_parts hk.1
   have e := depthF_fork (m := m) hl hk.1
   have he := kidsD_yes (d := kidF m T lo up) (n := T.kids.length) (hk.2 0 (by omega)) (fun i hi => by
    rcases Nat.decEq (kidF m T lo up i) (kidF m T lo up 0) with hne | he
    ·exact absurd (e.trans (kidsD_ne hi hne)) h
    ·exact he)
   rw [e, he]
   refine .inr ⟨hl, hp.1, hp.2.1.1, hp.2.1.2, hp.2.2.1, hp.2.2.2.1, fun t ht => ?_⟩
   obtain ⟨i, hi, rfl⟩ := List.getElem_of_mem ht
   have h1 := sh_of_depth (hk.2 i hi)
   have h2 : kidF m T lo up i = kidF m T lo up 0 := by
    rcases Nat.decEq (kidF m T lo up i) (kidF m T lo up 0) with hne | he
    ·exact absurd (e.trans (kidsD_ne hi hne)) h
    ·exact he
   rw [← h2]
   have h3 : kidT T i = T.kids[i] := by simp [kidT, List.getD, hi]
   rw [← h3]
   exact h1
  ·have hp := leafOk_parts (depthF_leaf_ok h hl)
   have e := depthF_leaf (m := m) (lo := lo) (hi := up) hl
   rw [if_pos (depthF_leaf_ok h hl)] at e
   rw [e]
   exact .inl ⟨hl, rfl, hp.2.1, hp.2.2.2.2.1, hp.2.2.1, hp.2.2.2.1⟩
end
section
open Go.RowKit

theorem flatM_one (l : ML) : ∀ y ∈ flatM l, y.oneCell' = true := by
 induction l with
 | nil => intro y hy; simp [flatM] at hy
 | cons p l ih =>
  intro y hy
  rw [flatM_cons] at hy
  rcases List.mem_cons.1 hy with rfl | hy
  ·rfl
  ·rcases List.mem_cons.1 hy with rfl | hy
   ·rfl
   ·rcases List.mem_cons.1 hy with rfl | hy
    ·rfl
    ·exact ih y hy
theorem three_one (a b c : Int) : ∀ u ∈ [Value.int .i64 a, Value.int .i64 b, Value.int .i64 c], u.oneCell' = true := by
 intro u hu; simp at hu; rcases hu with rfl | rfl | rfl <;> rfl
end
end Go.Proofs.Ytekcnibohikmdaa
