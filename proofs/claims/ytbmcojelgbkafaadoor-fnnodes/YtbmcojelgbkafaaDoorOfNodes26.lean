/-
  Trees side by side: each is right in its place, and tells of each key of its place what it should; plain mathematics.
  Leaves, parents and what is given down, as trees side by side; plain mathematics.
  Contracts of slices.Grow and slices.Concat at messages, and of the program's msgsOfKid.
  The library's Grow and Concat, over trees and over numbers: any number of parts.
  The program's slices.Clone, of pairs, cuts, messages and kids.
  The copier's map: from where a list of kids stands to its copy.
  The copier's map, when something is laid into it.
  Kid by kid, each in its place: what it comes to; plain mathematics.
  The library's Max and Index over numbers; the program's busiest: the kid to which most messages belong.
  The contract of the program's busiest.
  The library's Grow and Concat, over trees and over numbers: any number of parts.
  The program's rows of trees: rowOf, kidsOf.
  The program's inPlaceOf: what came of a kid stands where it stood.
-/
import Derived.Test.YtbmcojelgbkafaaDoorOfNodes25
import Derived.Test.YtbmcojelgbkafaaDoorOfNodes8
import Derived.Lib.Walk
import Derived.Lib.SliceRun
import Derived.Lib.AppendZerosOnto
import Derived.Test.YtbmcojelgbkafaaDoorOfNodes14
import Derived.Test.YtbmcojelgbkafaaDoorOfNodes9
import Derived.Test.YtbmcojelgbkafaaDoorOfNodes10
import Derived.Lib.BufferMore
import Derived.Laws.StructEq
import Derived.LaidEql
import Derived.MapKept
import Derived.Test.YtbmcojelgbkafaaDoorOfNodes6
import Derived.Test.YtbmcojelgbkafaaDoorOfNodes11
import Derived.Test.YtbmcojelgbkafaaDoorOfNodes13
import Derived.Deep.RegionHeld3
namespace Go.Proofs.YtbmcojelgbkafaaDoor
set_option maxRecDepth 100000
set_option maxHeartbeats 8000000
section
def Rt (d : Nat) (f : Int → Int × Bool) (lo hi : Int) (t : Tr) : Prop := depthF d t lo hi = d ∧ ∀ k, lo ≤ k → k < hi → valF d t k = f k
def Seg (d : Nat) (f : Int → Int × Bool) : Int → Int → List Int → List Tr → Prop
 | lo, hi, [], [t] => Rt d f lo hi t
 | lo, hi, c :: cs, t :: ts => Rt d f lo c t ∧ lo < c ∧ c < hi ∧ Seg d f c hi cs ts
 | _, _, _, _ => False
def MsIn (lo hi : Int) (ms : ML) : Prop := ∀ m ∈ ms, okN m ∧ lo ≤ m.2.1 ∧ m.2.1 < hi
def CsIn (lo hi : Int) (cs : List Int) : Prop := ∀ i, i < cs.length → frC cs lo i < iAt cs i ∧ iAt cs i < hi

variable {d : Nat} {f g h : Int → Int × Bool}

theorem Rt.congr {lo hi : Int} {t : Tr} (a : Rt d f lo hi t) (e : ∀ k, lo ≤ k → k < hi → f k = g k) : Rt d g lo hi t := ⟨a.1, fun k h1 h2 => (a.2 k h1 h2).trans (e k h1 h2)⟩
theorem Seg.len : ∀ {cs : List Int} {lo hi : Int} {ts : List Tr}, Seg d f lo hi cs ts → cs.length + 1 = ts.length
 | [], _, _, [_], _ => rfl
 | [], _, _, [], a => a.elim
 | [], _, _, _ :: _ :: _, a => a.elim
 | _ :: _, _, _, [], a => a.elim
 | _ :: cs, _, _, _ :: ts, ⟨_, _, _, a⟩ => by have := a.len; simp only [List.length_cons]; omega
theorem Seg.congr : ∀ {cs : List Int} {lo hi : Int} {ts : List Tr}, Seg d f lo hi cs ts → (∀ k, lo ≤ k → k < hi → f k = g k) → Seg d g lo hi cs ts
 | [], _, _, [_], a, e => Rt.congr a e
 | [], _, _, [], a, _ => a.elim
 | [], _, _, _ :: _ :: _, a, _ => a.elim
 | _ :: _, _, _, [], a, _ => a.elim
 | _ :: _, _, _, _ :: _, ⟨a, b, c, r⟩, e => ⟨a.congr fun k h1 h2 => e k h1 (by omega), b, c, r.congr fun k h1 h2 => e k (by omega) h2⟩
theorem Seg.append : ∀ {cs1 : List Int} {lo c hi : Int} {ts1 : List Tr} {cs2 : List Int} {ts2 : List Tr}, Seg d f lo c cs1 ts1 → lo < c → c < hi → Seg d f c hi cs2 ts2 → Seg d f lo hi (cs1 ++ c :: cs2) (ts1 ++ ts2)
 | [], _, _, _, [_], _, _, a, h1, h2, r => ⟨a, h1, h2, r⟩
 | [], _, _, _, [], _, _, a, _, _, _ => a.elim
 | [], _, _, _, _ :: _ :: _, _, _, a, _, _, _ => a.elim
 | _ :: _, _, _, _, [], _, _, a, _, _, _ => a.elim
 | _ :: _, _, _, _, _ :: _, _, _, ⟨a, b, c0, r0⟩, _, h2, r => ⟨a, b, by omega, r0.append c0 h2 r⟩
theorem Seg.drop : ∀ {i : Nat} {cs : List Int} {lo hi : Int} {ts : List Tr}, Seg d f lo hi cs ts → i < ts.length → Seg d f (frC cs lo i) hi (cs.drop i) (ts.drop i)
 | 0, _, _, _, _, a, _ => a
 | i + 1, [], _, _, ts, a, hi0 => by have := a.len; simp at this; omega
 | _ + 1, _ :: _, _, _, [], a, _ => a.elim
 | i + 1, c :: cs, lo, hi, t :: ts, ⟨_, _, _, r⟩, hi0 => by
  have := r.drop (i := i) (by simpa using hi0)
  rw [List.drop_succ_cons, List.drop_succ_cons]
  cases i with
  | zero => simpa [frC, iAt] using this
  | succ i => simpa [frC, iAt] using this
theorem Seg.take : ∀ {n : Nat} {cs : List Int} {lo hi : Int} {ts : List Tr}, Seg d f lo hi cs ts → n < ts.length → Seg d f lo (toC cs hi n) (cs.take n) (ts.take (n + 1))
 | 0, [], _, _, [_], a, _ => a
 | _, [], _, _, [], a, _ => a.elim
 | _, [], _, _, _ :: _ :: _, a, _ => a.elim
 | _ + 1, [], _, _, [_], _, hn => by simp at hn
 | _, _ :: _, _, _, [], a, _ => a.elim
 | 0, _ :: _, _, _, _ :: _, ⟨a, _, _, _⟩, _ => by simpa [toC, iAt, Seg] using a
 | n + 1, c :: cs, lo, hi, t :: ts, ⟨a, b, c0, r⟩, hn => by
  have h1 := r.take (n := n) (by simpa using hn)
  have e : toC (c :: cs) hi (n + 1) = toC cs hi n := by simp [toC, iAt]
  rw [List.take_succ_cons, List.take_succ_cons, e]
  refine ⟨a, b, ?_, h1⟩
  unfold toC
  split
  ·rename_i hlt
   clear h1 e hn a b
   induction cs generalizing c ts n with
   | nil => simp at hlt
   | cons c1 cs ih =>
    cases ts with
    | nil => exact r.elim
    | cons t1 ts =>
     obtain ⟨_, r1, r2, r3⟩ := r
     cases n with
     | zero => simpa [iAt] using r1
     | succ n =>
      have := ih (c := c1) (ts := ts) r2 r3 (n := n) (by simpa using hlt)
      simp only [iAt, List.getD_cons_succ] at this ⊢
      omega
  ·exact c0
theorem Seg.cuts : ∀ {cs : List Int} {lo hi : Int} {ts : List Tr}, Seg d f lo hi cs ts → CsIn lo hi cs
 | [], _, _, _, _ => fun i h => by simp at h
 | _ :: _, _, _, [], a => a.elim
 | c :: cs, lo, hi, t :: ts, ⟨_, b, c0, r⟩ => fun i h => by
  cases i with
  | zero => simpa [frC, iAt] using ⟨b, c0⟩
  | succ i =>
   have := r.cuts i (by simpa using h)
   cases i with
   | zero => simpa [frC, iAt] using this
   | succ i => simpa [frC, iAt] using this
theorem Seg.at : ∀ {cs : List Int} {lo hi : Int} {ts : List Tr}, Seg d f lo hi cs ts → ∀ i, i < ts.length → Rt d f (frC cs lo i) (toC cs hi i) (ts.getD i noTr) := fun a i hi0 => by
 have h1 := a.drop hi0
 have h2 := h1.take (n := 0) (by rw [List.length_drop]; omega)
 rename_i cs lo hi ts
 have e1 : (ts.drop i).take (0 + 1) = [ts.getD i noTr] := by
  rw [List.drop_eq_getElem_cons hi0, List.take_succ_cons, List.take_zero]; simp [List.getD, hi0]
 have e2 : toC (cs.drop i) hi 0 = toC cs hi i := by
  unfold toC
  by_cases hc : i < cs.length
  ·rw [if_pos (by simp; omega), if_pos hc]; simp [iAt, List.getD]
  ·rw [if_neg (by simp; omega), if_neg hc]
 rw [e1, e2, List.take_zero] at h2
 exact h2
theorem Seg.of : ∀ {cs : List Int} {lo hi : Int} {ts : List Tr}, cs.length + 1 = ts.length → CsIn lo hi cs → (∀ i, i < ts.length → Rt d f (frC cs lo i) (toC cs hi i) (ts.getD i noTr)) → Seg d f lo hi cs ts
 | [], lo, hi, [t], _, _, a => by
  show Rt d f lo hi t
  simpa [frC, toC] using a 0 (by simp)
 | [], _, _, [], hl, _, _ => by simp at hl
 | [], _, _, _ :: _ :: _, hl, _, _ => by simp at hl
 | _ :: _, _, _, [], hl, _, _ => by simp at hl
 | c :: cs, lo, hi, t :: ts, hl, hc, a => by
  have a0 := a 0 (by simp)
  have c0 := hc 0 (by simp)
  simp only [frC, toC, if_true, List.length_cons, Nat.zero_lt_succ, iAt, List.getD_cons_zero] at a0 c0
  refine ⟨a0, c0.1, c0.2, Seg.of (by simpa using hl) (fun i hi0 => ?_) (fun i hi0 => ?_)⟩
  ·have := hc (i + 1) (by simpa using hi0)
   cases i with
   | zero => simpa [frC, iAt] using this
   | succ i => simpa [frC, iAt] using this
  ·have := a (i + 1) (by simpa using hi0)
   simp only [frC, toC, iAt, Nat.add_one_ne_zero, if_false, Nat.add_sub_cancel, List.getD_cons_succ, List.length_cons, Nat.add_lt_add_iff_right] at this ⊢
   cases i with
   | zero => simpa using this
   | succ i => simpa using this

theorem CsIn.tail {c lo hi : Int} {cs : List Int} (a : CsIn lo hi (c :: cs)) : lo < c ∧ c < hi ∧ CsIn c hi cs := by
 have c0 := a 0 (by simp)
 simp only [frC, if_true, iAt, List.getD_cons_zero] at c0
 refine ⟨c0.1, c0.2, fun i hi0 => ?_⟩
 have := a (i + 1) (by simpa using hi0)
 cases i with
 | zero => simpa [frC, iAt] using this
 | succ i => simpa [frC, iAt] using this
theorem CsIn.lo {lo hi : Int} {cs : List Int} (a : CsIn lo hi cs) : ∀ i, i < cs.length → lo < iAt cs i := by
 induction cs generalizing lo with
 | nil => intro i h; simp at h
 | cons c cs ih =>
  obtain ⟨h1, h2, h3⟩ := a.tail
  intro i hi0
  cases i with
  | zero => simpa [iAt] using h1
  | succ i =>
   have := ih h3 i (by simpa using hi0)
   simp only [iAt, List.getD_cons_succ] at this ⊢
   omega
theorem CsIn.asc {lo hi : Int} {cs : List Int} (a : CsIn lo hi cs) : ∀ i j, i < j → j < cs.length → iAt cs i < iAt cs j := by
 induction cs generalizing lo with
 | nil => intro i j _ h; simp at h
 | cons c cs ih =>
  obtain ⟨h1, h2, h3⟩ := a.tail
  intro i j hij hj
  cases j with
  | zero => omega
  | succ j =>
   cases i with
   | zero =>
    have := h3.lo j (by simpa using hj)
    simpa [iAt] using this
   | succ i =>
    have := ih h3 i j (by omega) (by simpa using hj)
    simpa [iAt] using this
theorem CsIn.pref {lo hi : Int} {cs : List Int} (a : CsIn lo hi cs) {i : Nat} (hi0 : i ≤ cs.length) {k : Int} (h1 : frC cs lo i ≤ k) (h2 : k < toC cs hi i) : prefK cs k = i := by
 refine prefK_at hi0 (fun j hj => ?_) (fun hlt => ?_)
 ·unfold frC at h1
  rw [if_neg (by omega)] at h1
  by_cases e : j = i - 1
  ·rw [e]; exact h1
  ·have := a.asc j (i - 1) (by omega) (by omega)
   omega
 ·unfold toC at h2
  rw [if_pos hlt] at h2
  omega
theorem Seg.put : ∀ {cs : List Int} {lo hi : Int} {ts : List Tr} {i : Nat} {x : TM}, Seg d f lo hi cs ts → i < ts.length → Seg d h (frC cs lo i) (toC cs hi i) x.2 x.1 → (∀ k, lo ≤ k → k < hi → prefK cs k ≠ i → f k = h k) →
  Seg d h lo hi (cs.take i ++ x.2 ++ cs.drop i) (ts.take i ++ x.1 ++ ts.drop (i + 1))
 | [], _, _, [], _, _, a, _, _, _ => a.elim
 | [], _, _, _ :: _ :: _, _, _, a, _, _, _ => a.elim
 | _ :: _, _, _, [], _, _, a, _, _, _ => a.elim
 | [], lo, hi, [t], i, x, _, hi0, b, _ => by
  have e : i = 0 := by simp at hi0; omega
  subst e
  simpa [frC, toC] using b
 | c :: cs, lo, hi, t :: ts, 0, x, ⟨a, a1, a2, r⟩, _, b, e => by
  have b' : Seg d h lo c x.2 x.1 := by simpa [frC, toC, iAt] using b
  have r' : Seg d h c hi cs ts := r.congr fun k h1 h2 => e k (by omega) h2 (by rw [prefK_cons_pos h1]; omega)
  simpa using b'.append a1 a2 r'
 | c :: cs, lo, hi, t :: ts, i + 1, x, ⟨a, a1, a2, r⟩, hi0, b, e => by
  have b' : Seg d h (frC cs c i) (toC cs hi i) x.2 x.1 := by
   have e1 : frC (c :: cs) lo (i + 1) = frC cs c i := by
    cases i with
    | zero => simp [frC, iAt]
    | succ i => simp [frC, iAt]
   have e2 : toC (c :: cs) hi (i + 1) = toC cs hi i := by simp [toC, iAt]
   rw [e1, e2] at b
   exact b
  have r' := r.put (i := i) (by simpa using hi0) b' (fun k h1 h2 h3 => e k (by omega) h2 (by rw [prefK_cons_pos h1]; omega))
  rw [List.take_succ_cons, List.take_succ_cons, List.drop_succ_cons, List.drop_succ_cons]
  exact ⟨a.congr fun k h1 h2 => e k h1 (by omega) (by rw [prefK_cons_neg (by omega)]; omega), a1, a2, r'⟩

theorem Seg.both {m : TM} {lo hi : Int} (F : Nat → TM) (hl : m.2.length + 1 = m.1.length) (hc : CsIn lo hi m.2) (a : ∀ i, i < m.1.length → Seg d h (frC m.2 lo i) (toC m.2 hi i) (F i).2 (F i).1) : Seg d h lo hi (bothM F m).2 (bothM F m).1 := by
 have key : ∀ j, j < m.1.length → Seg d h lo (toC m.2 hi j) (sideC F m.2 (j + 1)) (sideT F (j + 1)) := by
  intro j
  induction j with
  | zero =>
   intro hj
   have := a 0 hj
   simpa [sideC, sideT, frC] using this
  | succ j ih =>
   intro hj
   have h1 := ih (by omega)
   have h2 := a (j + 1) hj
   have e1 : toC m.2 hi j = iAt m.2 j := by rw [toC, if_pos (by omega)]
   have e2 : frC m.2 lo (j + 1) = iAt m.2 j := by rw [frC, if_neg (by omega), Nat.add_sub_cancel]
   rw [e1] at h1
   rw [e2] at h2
   have h3 : iAt m.2 j < toC m.2 hi (j + 1) := by
    unfold toC
    split
    ·have := (hc (j + 1) (by assumption)).1
     rw [e2] at this
     exact this
    ·exact (hc j (by omega)).2
   have := h1.append (hc.lo j (by omega)) h3 h2
   have e3 : sideC F m.2 (j + 1 + 1) = sideC F m.2 (j + 1) ++ iAt m.2 j :: (F (j + 1)).2 := by
    rw [sideC, if_pos (by omega), Nat.add_sub_cancel, List.append_assoc]; rfl
   rw [e3, sideT]
   exact this
 have := key (m.1.length - 1) (by omega)
 rw [show m.1.length - 1 + 1 = m.1.length by omega, toC, if_neg (by omega)] at this
 exact this
end
section
variable {d : Nat} {f g h : Int → Int × Bool}

theorem mapOkB_of {l : PL} (a : MapP l) : mapOkB l = true := (mapOkB_iff _).2 a
theorem Rt.leaf {ps : PL} {lo hi : Int} (a : MapP ps) (b : KeysIn lo hi ps) (hl : ps.length ≤ 4) : Rt 1 (getP ps) lo hi (leafT ps) := by
 refine ⟨?_, fun k _ _ => valF_leaf rfl⟩
 rw [depthF_leaf rfl, if_pos]
 simp only [leafOkB, Bool.and_eq_true, decide_eq_true_eq]
 refine ⟨mapOkB_of a, hl, rfl, allB_true fun i hi0 => ?_⟩
 have := b ps[i] (List.getElem_mem hi0)
 refine inB_iff.2 ?_
 have e : kOf (leafT ps).pairs i = (ps[i]'hi0).1 := by
  show kOf ps i = _
  rw [kOf, List.getD, List.getElem?_eq_getElem (show i < ps.length from hi0)]; rfl
 rw [e]
 omega
theorem Rt.fork {lo hi : Int} {cs : List Int} {ts : List Tr} {b : ML} (a : Seg d f lo hi cs ts) (hd : 0 < d) (h2 : 2 ≤ ts.length) (h4 : ts.length ≤ 4) (hb : b.length ≤ 6) (hm : MsIn lo hi b) :
  Rt (d + 1) (fun k => updA (f k) (ofK b k)) lo hi ⟨false, [], cs, ts, b⟩ := by
 have hl := a.len
 have hc := a.cuts
 have hf : forkOkB ⟨false, [], cs, ts, b⟩ lo hi = true := by
  simp only [forkOkB, shapeB, Bool.and_eq_true, decide_eq_true_eq]
  refine ⟨⟨rfl, ⟨h2, h4⟩, hl, hb⟩, allB_true fun i hi0 => ?_, allB_true fun i hi0 => ?_⟩
  ·obtain ⟨⟨m1, m2⟩, m3, m4⟩ := hm b[i] (List.getElem_mem hi0)
   rw [ml_at b i hi0] at m1 m2 m3 m4
   simp only [msgAt, Bool.and_eq_true]
   refine ⟨m1, by simpa using m2, inB_iff.2 ⟨m3, ?_⟩⟩
   have : mK b i < hi := m4
   show mK b i ≤ hi - 1
   omega
  ·have := hc i hi0
   refine inB_iff.2 ?_
   unfold frC at this
   show fromT ⟨false, [], cs, ts, b⟩ lo i + 1 ≤ iAt cs i ∧ iAt cs i ≤ hi - 1
   unfold fromT
   show (if i = 0 then lo else iAt cs (i - 1)) + 1 ≤ _ ∧ _
   omega
 have hk : ∀ i, i < ts.length → kidF d ⟨false, [], cs, ts, b⟩ lo hi i = d := fun i hi0 => (a.at i hi0).1
 refine ⟨?_, fun k h1 h3 => ?_⟩
 ·rw [depthF_fork rfl hf, kidsD_yes]
  ·rw [hk 0 (by omega)]
  ·rw [hk 0 (by omega)]; omega
  ·intro i hi0; rw [hk i hi0, hk 0 (by omega)]
 ·rw [valF_fork rfl]
  have hp := prefK_le cs k
  have hr := prefK_range hp hc ⟨h1, h3⟩ rfl
  have := (a.at (prefK cs k) (by omega)).2 k hr.1 hr.2
  show updA (valF d (ts.getD (prefK cs k) noTr) k) (ofK b k) = _
  rw [this]
theorem Rt.fork0 {lo hi : Int} {cs : List Int} {ts : List Tr} (a : Seg d f lo hi cs ts) (hd : 0 < d) (h2 : 2 ≤ ts.length) (h4 : ts.length ≤ 4) : Rt (d + 1) f lo hi ⟨false, [], cs, ts, []⟩ :=
 Rt.fork a hd h2 h4 (by simp) (fun m hm => by simp at hm)
theorem kidsD_at {e : Nat → Nat} {n r : Nat} (hr : kidsD e n = r + 1) : ∀ i, i < n → e i = r := by
 intro i hi0
 unfold kidsD at hr
 split at hr
 ·rename_i hq
  simp only [Bool.and_eq_true] at hq
  have := allB_at hq.2 hi0
  simp only [beq_iff_eq] at this
  omega
 ·omega
theorem Rt.kids {lo hi : Int} {T : Tr} (a : depthF (d + 1) T lo hi = d + 1) (hl : T.leaf = false) : forkOkB T lo hi = true ∧ Seg d (fun k => valF d (kidK T k) k) lo hi T.cuts T.kids := by
 have hf := (depthF_fork_ok (m := d) (T := T) (lo := lo) (hi := hi) (by omega) hl).1
 refine ⟨hf, ?_⟩
 obtain ⟨q1, q2, q3, q4, q5, q6⟩ := forkOk_parts hf
 have hc : CsIn lo hi T.cuts := cut_parts q6
 rw [depthF_fork hl hf] at a
 have hk := kidsD_at a
 refine Seg.of q3 hc fun i hi0 => ⟨hk i hi0, fun k h1 h2 => ?_⟩
 have := hc.pref (i := i) (by omega) h1 h2
 show _ = valF d (kidT T (prefK T.cuts k)) k
 rw [this]; rfl

theorem asc_at {l : PL} (a : Asc l) {i j : Nat} (hij : i < j) (hj : j < l.length) : kOf l i < kOf l j := by
 have h1 := List.pairwise_iff_getElem.1 a i j (by simpa [keys] using (by omega : i < l.length)) (by simpa [keys] using hj) hij
 have h2 : i < l.length := by omega
 simpa [keys, kOf, List.getD, hj, h2] using h1
theorem sub_mapP {l : PL} (a : MapP l) (i n : Nat) : MapP ((l.drop i).take n) :=
 ⟨List.Pairwise.sublist (List.Sublist.map Prod.fst ((List.take_sublist _ _).trans (List.drop_sublist _ _))) a.1, fun p hp => a.2 p (List.mem_of_mem_drop (List.mem_of_mem_take hp))⟩
theorem getP_sub {l : PL} {i n : Nat} {k : Int} (h1 : ∀ j, j < i → j < l.length → kOf l j < k) (h2 : ∀ j, i + n ≤ j → j < l.length → k < kOf l j) : getP ((l.drop i).take n) k = getP l k := by
 have e : l = l.take i ++ ((l.drop i).take n ++ (l.drop i).drop n) := by rw [List.take_append_drop, List.take_append_drop]
 conv => rhs; rw [e]
 rw [getP_append_right (fun p hp => ?_), getP_append_left (fun p hp => ?_)]
 ·rw [List.drop_drop] at hp
  obtain ⟨j, hj, hk⟩ := List.getElem_of_mem hp
  rw [List.getElem_drop] at hk
  rw [List.length_drop] at hj
  have := h2 (i + n + j) (by omega) (by omega)
  have e2 : kOf l (i + n + j) = p.1 := by rw [← hk]; simp [kOf, List.getD, show i + n + j < l.length by omega]
  omega
 ·obtain ⟨j, hj, hk⟩ := List.getElem_of_mem hp
  rw [List.getElem_take] at hk
  rw [List.length_take] at hj
  have := h1 j (by omega) (by omega)
  have e2 : kOf l j = p.1 := by rw [← hk]; simp [kOf, List.getD, show j < l.length by omega]
  omega
theorem sub_keys {l : PL} {i n : Nat} {p : Int × Int} (hp : p ∈ (l.drop i).take n) : ∃ j, i ≤ j ∧ j < i + n ∧ j < l.length ∧ p.1 = kOf l j := by
 obtain ⟨j, hj, hk⟩ := List.getElem_of_mem hp
 rw [List.getElem_take, List.getElem_drop] at hk
 rw [List.length_take, List.length_drop] at hj
 exact ⟨i + j, by omega, by omega, by omega, by rw [← hk]; simp [kOf, List.getD, show i + j < l.length by omega]⟩
theorem asc_le {l : PL} (a : Asc l) {i j : Nat} (hij : i ≤ j) (hj : j < l.length) : kOf l i ≤ kOf l j := by
 rcases Nat.lt_or_ge i j with h | h
 ·exact Int.le_of_lt (asc_at a h hj)
 ·have : i = j := by omega
  subst this; exact Int.le_refl _

def loF (ps : PL) (lo : Int) (i : Nat) : Int := if i = 0 then lo else kOf ps i
theorem Seg.leaves {ps : PL} {lo hi : Int} (a : MapP ps) (b : KeysIn lo hi ps) : ∀ n i, ps.length - i ≤ n → i < ps.length → 2 ≤ ps.length - i → Seg 1 (getP ps) (loF ps lo i) hi (lfC ps (i + manyN (ps.length - i))) (lfT ps i) := by
 intro n
 induction n with
 | zero => intro i h1 h2; omega
 | succ n ih =>
  intro i h1 h2 h3
  have hm := manyN_two (ps.length - i)
  rw [lfT_eq, if_pos h2]
  have h3' : ps.length - i = 3 → manyN (ps.length - i) = 3 := fun h => by rw [h]; rfl
  have hin : ∀ j, j < ps.length → lo ≤ kOf ps j ∧ kOf ps j < hi := fun j hj => by
   have := b ps[j] (List.getElem_mem hj)
   simpa [kOf, List.getD, hj] using this
  have hlo : ∀ j, i ≤ j → j < ps.length → loF ps lo i ≤ kOf ps j := fun j hij hj => by
   unfold loF
   split
   ·exact (hin j hj).1
   ·exact asc_le a.1 hij hj
  have hbe : ∀ k, loF ps lo i ≤ k → ∀ j, j < i → j < ps.length → kOf ps j < k := fun k hk j hji hj => by
   unfold loF at hk
   rw [if_neg (by omega)] at hk
   have := asc_at a.1 hji h2
   omega
  generalize hM : manyN (ps.length - i) = M at *
  have hpl : ((ps.drop i).take M).length ≤ 4 := by rw [List.length_take]; omega
  by_cases he : i + M < ps.length
  ·have h4 : 2 ≤ ps.length - (i + M) := by omega
   have r := ih (i + M) (by omega) he h4
   rw [lfC_eq, if_pos he, if_pos (by omega), List.singleton_append]
   have e1 : loF ps lo (i + M) = kOf ps (i + M) := by rw [loF, if_neg (by omega)]
   rw [e1] at r
   refine ⟨(Rt.leaf (sub_mapP a i M) (fun p hp => ?_) hpl).congr fun k k1 k2 => ?_, ?_, (hin _ he).2, r⟩
   ·obtain ⟨j, j1, j2, j3, j4⟩ := sub_keys hp
    rw [j4]
    exact ⟨hlo j j1 j3, asc_at a.1 j2 he⟩
   ·exact getP_sub (hbe k k1) fun j j1 j2 => by have := asc_le a.1 j1 j2; omega
   ·have := hlo i (Nat.le_refl _) h2
    have := asc_at a.1 (show i < i + M by omega) he
    omega
  ·have e1 : lfT ps (i + M) = [] := by rw [lfT_eq, if_neg he]
   have e2 : lfC ps (i + M) = [] := by rw [lfC_eq, if_neg he]
   rw [e1, e2]
   refine (Rt.leaf (sub_mapP a i M) (fun p hp => ?_) hpl).congr fun k k1 k2 => ?_
   ·obtain ⟨j, j1, j2, j3, j4⟩ := sub_keys hp
    rw [j4]
    exact ⟨hlo j j1 j3, (hin j j3).2⟩
   ·exact getP_sub (hbe k k1) fun j j1 j2 => by omega
theorem Seg.leafM {ps : PL} {lo hi : Int} (a : MapP ps) (b : KeysIn lo hi ps) : Seg 1 (getP ps) lo hi (leafM ps).2 (leafM ps).1 := by
 unfold YtbmcojelgbkafaaDoor.leafM
 split
 ·exact Rt.leaf a b (by assumption)
 ·have := Seg.leaves a b ps.length 0 (by omega) (by omega) (by omega)
  have e : lfC ps 0 = lfC ps (0 + manyN (ps.length - 0)) := by rw [lfC_eq ps 0, if_pos (by omega), if_neg (by omega), List.nil_append]
  show Seg 1 (getP ps) lo hi (lfC ps 0) (lfT ps 0)
  rw [e]
  exact this

theorem Seg.packs {m : TM} {lo hi : Int} (a : Seg d f lo hi m.2 m.1) (hd : 0 < d) : ∀ n i, m.1.length - i ≤ n → i < m.1.length → 2 ≤ m.1.length - i → Seg (d + 1) f (frC m.2 lo i) hi (pkC m (i + manyN (m.1.length - i))) (pkT m i) := by
 intro n
 induction n with
 | zero => intro i h1 h2; omega
 | succ n ih =>
  intro i h1 h2 h3
  have hl := a.len
  have hm := manyN_two (m.1.length - i)
  rw [pkT_eq, if_pos h2, packT]
  have h3' : m.1.length - i = 3 → manyN (m.1.length - i) = 3 := fun h => by rw [h]; rfl
  generalize hM : manyN (m.1.length - i) = M at *
  have s1 := (a.drop h2).take (n := M - 1) (by rw [List.length_drop]; omega)
  have e1 : toC (m.2.drop i) hi (M - 1) = toC m.2 hi (i + (M - 1)) := by
   unfold toC
   by_cases hc : i + (M - 1) < m.2.length
   ·rw [if_pos (by rw [List.length_drop]; omega), if_pos hc]; simp [iAt, List.getD]
   ·rw [if_neg (by rw [List.length_drop]; omega), if_neg hc]
  rw [e1, show M - 1 + 1 = M by omega] at s1
  have s2 := Rt.fork0 s1 hd (by rw [List.length_take, List.length_drop]; omega) (by rw [List.length_take]; omega)
  by_cases he : i + M < m.1.length
  ·have r := ih (i + M) (by omega) he (by omega)
   rw [pkC_eq, if_pos he, if_pos (by omega), List.singleton_append]
   have e2 : frC m.2 lo (i + M) = iAt m.2 (i + M - 1) := by rw [frC, if_neg (by omega)]
   have e3 : toC m.2 hi (i + (M - 1)) = iAt m.2 (i + M - 1) := by rw [toC, if_pos (by omega), show i + (M - 1) = i + M - 1 by omega]
   rw [e2] at r
   rw [e3] at s2
   refine ⟨s2, ?_, (a.cuts _ (by omega)).2, r⟩
   unfold frC
   split
   ·exact a.cuts.lo _ (by omega)
   ·exact a.cuts.asc _ _ (by omega) (by omega)
  ·have e4 : pkT m (i + M) = [] := by rw [pkT_eq, if_neg he]
   have e5 : pkC m (i + M) = [] := by rw [pkC_eq, if_neg he]
   have e6 : toC m.2 hi (i + (M - 1)) = hi := by rw [toC, if_neg (by omega)]
   rw [e4, e5]
   rw [e6] at s2
   exact s2
theorem Seg.pack {m : TM} {lo hi : Int} (a : Seg d f lo hi m.2 m.1) (hd : 0 < d) (h2 : 2 ≤ m.1.length) : Seg (d + 1) f lo hi (packM m).2 (packM m).1 := by
 have := a.packs hd m.1.length 0 (by omega) (by omega) (by omega)
 have e : pkC m 0 = pkC m (0 + manyN (m.1.length - 0)) := by rw [pkC_eq m 0, if_pos (by omega), if_neg (by omega), List.nil_append]
 show Seg (d + 1) f lo hi (pkC m 0) (pkT m 0)
 rw [e]
 exact this

def GiveS (d : Nat) (g : Tr → ML → TM) : Prop := ∀ T ms lo hi, depthF d T lo hi = d → MsIn lo hi ms → Seg d (fun k => updA (valF d T k) (ofK ms k)) lo hi (g T ms).2 (g T ms).1
theorem MsIn.mine {lo hi : Int} {cs : List Int} {b : ML} (a : MsIn lo hi b) (hc : CsIn lo hi cs) {i : Nat} (hi0 : i ≤ cs.length) : MsIn (frC cs lo i) (toC cs hi i) (mineF cs i b) := fun m hm => by
 obtain ⟨h1, h2⟩ := List.mem_filter.1 hm
 obtain ⟨h3, h4⟩ := a m h1
 exact ⟨h3, prefK_range hi0 hc h4 (by simpa using h2)⟩
theorem MsIn.rest {lo hi : Int} {cs : List Int} {b : ML} (a : MsIn lo hi b) (i : Nat) : MsIn lo hi (restF cs i b) := fun m hm => a m (List.mem_filter.1 hm).1
theorem ofK_mine {cs : List Int} {k : Int} {i : Nat} (b : ML) (e : prefK cs k = i) : ofK (mineF cs i b) k = ofK b k ∧ ofK (restF cs i b) k = [] := by
 constructor
 ·unfold ofK mineF
  rw [List.filter_filter]
  refine List.filter_congr fun m _ => ?_
  by_cases hm : m.2.1 = k <;> simp [hm, e]
 ·refine List.filter_eq_nil_iff.2 fun m hm => ?_
  have := (List.mem_filter.1 hm).2
  intro h1
  simp at h1
  rw [h1, e] at this
  simp at this
theorem ofK_rest {cs : List Int} {k : Int} {i : Nat} (b : ML) (e : prefK cs k ≠ i) : ofK (restF cs i b) k = ofK b k ∧ ofK (mineF cs i b) k = [] := by
 constructor
 ·unfold ofK restF
  rw [List.filter_filter]
  refine List.filter_congr fun m _ => ?_
  by_cases hm : m.2.1 = k <;> simp [hm, e]
 ·refine List.filter_eq_nil_iff.2 fun m hm => ?_
  have := (List.mem_filter.1 hm).2
  intro h1
  simp at h1
  rw [h1] at this
  simp [e] at this
theorem Seg.kid {G : Tr → ML → TM} (hg : GiveS d G) {m : TM} {lo hi : Int} {b : ML} (a : Seg d f lo hi m.2 m.1) (hb : MsIn lo hi b) {i : Nat} (hi0 : i < m.1.length) : Seg d (fun k => updA (f k) (ofK b k)) (frC m.2 lo i) (toC m.2 hi i) (G (m.1.getD i noTr) (mineF m.2 i b)).2 (G (m.1.getD i noTr) (mineF m.2 i b)).1 := by
 have hl := a.len
 have hr := a.at i hi0
 refine (hg _ _ _ _ hr.1 (hb.mine a.cuts (by omega))).congr fun k h1 h2 => ?_
 rw [hr.2 k h1 h2, (ofK_mine b (a.cuts.pref (by omega) h1 h2)).1]
theorem Seg.down {G : Tr → ML → TM} (hg : GiveS d G) {m : TM} {lo hi : Int} {b : ML} (a : Seg d f lo hi m.2 m.1) (hb : MsIn lo hi b) : Seg d (fun k => updA (f k) (ofK b k)) lo hi (downM G m b).2 (downM G m b).1 := by
 rw [downM_both]
 have hl := a.len
 refine Seg.both _ hl a.cuts fun i hi0 => ?_
 unfold kidM
 split
 ·exact a.kid hg hb hi0
 ·rename_i hz
  have hz' : mineF m.2 i b = [] := List.length_eq_zero_iff.1 (by omega)
  refine (a.at i hi0).congr fun k h1 h2 => ?_
  rw [← (ofK_mine b (a.cuts.pref (by omega) h1 h2)).1, hz']; rfl
theorem Seg.loop {G : Tr → ML → TM} (hg : GiveS d G) {lo hi : Int} : ∀ n (m : TM) (b : ML) (f : Int → Int × Bool), Seg d f lo hi m.2 m.1 → MsIn lo hi b →
  ∃ f', Seg d f' lo hi (loopM G n m b).1.2 (loopM G n m b).1.1 ∧ MsIn lo hi (loopM G n m b).2 ∧ ∀ k, lo ≤ k → k < hi → updA (f' k) (ofK (loopM G n m b).2 k) = updA (f k) (ofK b k)
 | 0, m, b, f, a, hb => ⟨f, a, hb, fun _ _ _ => rfl⟩
 | n + 1, m, b, f, a, hb => by
  rw [loopM]
  split
  ·have hl := a.len
   have hat := (mostTo_is m.2 b m.1.length (by omega)).1
   generalize (mostTo m.2 b m.1.length).1 = i at *
   let hh : Int → Int × Bool := fun k => if prefK m.2 k = i then updA (f k) (ofK b k) else f k
   have p1 : Seg d hh (frC m.2 lo i) (toC m.2 hi i) (G (m.1.getD i noTr) (mineF m.2 i b)).2 (G (m.1.getD i noTr) (mineF m.2 i b)).1 :=
    (a.kid hg hb hat).congr fun k h1 h2 => by
     show _ = if _ then _ else _
     rw [if_pos (a.cuts.pref (by omega) h1 h2)]
   have p2 : Seg d hh lo hi (putM m i (G (m.1.getD i noTr) (mineF m.2 i b))).2 (putM m i (G (m.1.getD i noTr) (mineF m.2 i b))).1 :=
    a.put hat p1 fun k _ _ h3 => by
     show _ = if _ then _ else _
     rw [if_neg h3]
   obtain ⟨f', q1, q2, q3⟩ := Seg.loop hg n _ (restF m.2 i b) hh p2 (hb.rest i)
   refine ⟨f', q1, q2, fun k h1 h2 => (q3 k h1 h2).trans ?_⟩
   show updA (if prefK m.2 k = i then updA (f k) (ofK b k) else f k) _ = _
   by_cases e : prefK m.2 k = i
   ·rw [if_pos e, (ofK_mine b e).2]; rfl
   ·rw [if_neg e, (ofK_rest b e).1]
  ·exact ⟨f, a, hb, fun _ _ _ => rfl⟩
theorem MsIn.shrink {lo hi : Int} {b : ML} (a : ∀ m ∈ b, lo ≤ m.2.1 ∧ m.2.1 < hi) : MsIn lo hi (shrinkF b) := fun m hm => by
 obtain ⟨x, hx, he⟩ := shrink_keys hm
 exact ⟨shrinkF_ok b m hm, by rw [← he]; exact a x hx⟩
theorem giveM_seg : ∀ d, GiveS (d + 1) (giveM (d + 1)) := by
 intro d
 induction d with
 | zero =>
  intro T ms lo hi hT hms
  cases hl : T.leaf
  ·have hk := (depthF_fork_ok (m := 0) (T := T) (lo := lo) (hi := hi) (by omega) hl)
   have := hk.2 0 (by have := (forkOk_parts hk.1).2.1.1; omega)
   exact absurd rfl this
  ·obtain ⟨q1, q2, q3, q4, q5, q6⟩ := leafOk_parts (depthF_leaf_ok (m := 0) (T := T) (lo := lo) (hi := hi) (by omega) hl)
   rw [giveM, if_pos hl]
   refine (Seg.leafM (allL_mapP q1 ms) (allL_keys q6 fun m hm => (hms m hm).2)).congr fun k _ _ => ?_
   rw [getP_allL q1, valF_leaf hl]
 | succ d ih =>
  intro T ms lo hi hT hms
  cases hl : T.leaf
  ·obtain ⟨hf, hs⟩ := Rt.kids hT hl
   obtain ⟨q1, q2, q3, q4, q5, q6⟩ := forkOk_parts hf
   have hb := bufOk_parts q5
   rw [giveM, if_neg (by rw [hl]; simp)]
   have hB : MsIn lo hi (shrinkF (T.buf ++ ms)) := MsIn.shrink fun m hm => (List.mem_append.1 hm).elim (fun h1 => (hb m h1).2) (fun h1 => (hms m h1).2)
   obtain ⟨f', r1, r2, r3⟩ := Seg.loop ih (shrinkF (T.buf ++ ms)).length (T.kids, T.cuts) (shrinkF (T.buf ++ ms)) _ hs hB
   have hsh := (loopM_ok (giveM_ok (d + 1)) (shrinkF (T.buf ++ ms)).length (T.kids, T.cuts) (shrinkF (T.buf ++ ms)) ⟨q3, fun t ht => by
    obtain ⟨i, hi0, rfl⟩ := List.getElem_of_mem ht
    have e := (hs.at i hi0).1
    have e2 : T.kids.getD i noTr = T.kids[i] := by simp [List.getD, hi0]
    rw [e2] at e
    have := sh_of_depth (m := d + 1) (T := T.kids[i]) (lo := frC T.cuts lo i) (up := toC T.cuts hi i) (by omega)
    rw [e] at this
    exact this⟩ (Nat.le_refl _))
   have hval : ∀ k, lo ≤ k → k < hi → updA (f' k) (ofK (loopM (giveM (d + 1)) (shrinkF (T.buf ++ ms)).length (T.kids, T.cuts) (shrinkF (T.buf ++ ms))).2 k) = updA (valF (d + 1 + 1) T k) (ofK ms k) := fun k h1 h2 => by
    rw [r3 k h1 h2, upd_shrink, ofK_append, updA_append, valF_fork hl]
   generalize loopM (giveM (d + 1)) (shrinkF (T.buf ++ ms)).length (T.kids, T.cuts) (shrinkF (T.buf ++ ms)) = r at *
   unfold endM
   split
   ·have hd := Seg.down ih r1 r2
    exact ((hd.pack (by omega) (by have := (downM_ok (giveM_ok (d + 1)) hsh.1 r.2).2.2; omega))).congr hval
   ·exact (Rt.fork r1 (by omega) (by have := hsh.2.2.1; simp only at this; omega) (by omega) hsh.2.2.2 r2).congr hval
  ·have := depthF_leaf (m := d + 1) (T := T) (lo := lo) (hi := hi) hl
   rw [hT] at this
   split at this <;> omega
end
section
open Go.RowKit
end
section
open Go.RowKit

abbrev Pt := Value × Nat × List Value
def ptAt (P : List Pt) (i : Nat) : Pt := P.getD i (.slice none 0 0, 0, [])
def ptN (P : List Pt) (j : Nat) : Nat := ((P.take j).map fun p => p.2.1).sum
def ptC (P : List Pt) (j : Nat) : List Value := ((P.take j).map fun p => p.2.2).flatten
def PtOk (w : World) (size : Nat) (P : List Pt) : Prop := ∀ i, i < P.length → Row w (ptAt P i).1 (ptAt P i).2.1 (ptAt P i).2.2 ∧ (ptAt P i).2.2.length = (ptAt P i).2.1 * size ∧ ∀ y ∈ (ptAt P i).2.2, y.oneCell' = true
end
section
open Go.RowKit
end
section
open Go.RowKit

def keyV (a : Addr) (n : Int) : Value := .agg #[.pointer (some a), .int .i64 n]

def KeysIn0 (w : World) (V : Nat → Prop) (es : List MapEntry) : Prop := ∀ e ∈ es, ∃ a n, e.key = keyV a n ∧ Plain w a.block ∧ V a.block

def MadeAt (w : World) (M : Nat) (V : Nat → Prop) : Prop := ∃ es clock, w.heap[M]? = some (.map es clock) ∧ KeysIn0 w V es.toList
end
section
open Go.RowKit

def setM (w : World) (M : Nat) (o : Obj) : World := { w with heap := w.heap.setIfInBounds M o }
end
section
def kbk (f : Nat → TM) (m : TM) (k : Nat) : TM := (sideT f k ++ m.1.drop k, sideC f m.2 k ++ m.2.drop (k - 1))
end
section
open Go.RowKit
end
section
open Go.RowKit

def cntL (cs : List Int) (b : ML) (k : Nat) : List Int := (List.range (cs.length + 1)).map fun i => ((mineF cs i (b.take k)).length : Int)
end
section
open Go.RowKit
end
section
open Go.RowKit

abbrev AllB : Nat → Prop := fun _ => True
end
section
open Go.RowKit

abbrev setR (u : World) (L : Nat) (x y : Value) : World := (u.setCell ⟨L, 0, none⟩ x).setCell ⟨L, 1, none⟩ y
end
end Go.Proofs.YtbmcojelgbkafaaDoor
