/-
  A fork read from its bytes, as plain functions; what stands while the fork's struct is made in whatever order.
-/
import Derived.Test.YtbmcojelgbkafaaDoorOfNodes39
import Derived.Test.YtbmcojelgbkafaaDoorOfNodes1
import Derived.Laws.OwnMore
import Derived.Deep.DeepCutAuto
namespace Go.Proofs.YtbmcojelgbkafaaDoor
set_option maxRecDepth 100000
set_option maxHeartbeats 8000000
section
open Go.RowKit

def msgsN (bs : List Int) (at_ : Int) : Nat → Option (List (Int × Int × Int) × Int)
 | 0 => some ([], at_)
 | k + 1 => match msgsN bs at_ k with
  | none => none
  | some (l, p) => match numsN bs p 3 with
   | some ([x, y, z], q) => some (l ++ [(x, y, z)], q)
   | _ => none
theorem numsN_three {bs : List Int} {p : Int} {l : List Int} {q : Int} (h : numsN bs p 3 = some (l, q)) : ∃ x y z, l = [x, y, z] := by
 have := numsN_length h
 match l, this with
 | [x, y, z], _ => exact ⟨x, y, z, rfl⟩
theorem msgsN_none {bs : List Int} {at_ : Int} {k : Nat} (h : msgsN bs at_ k = none) : ∀ n, k ≤ n → msgsN bs at_ n = none := by
 intro n hn
 induction n with
 | zero =>
  obtain rfl : k = 0 := by omega
  exact h
 | succ n ih =>
  by_cases hk : k = n + 1
  ·rw [← hk]; exact h
  ·rw [msgsN, ih (by omega)]
theorem msgsN_length {bs : List Int} {at_ : Int} : ∀ {k : Nat} {l : List (Int × Int × Int)} {p : Int}, msgsN bs at_ k = some (l, p) → l.length = k := by
 intro k
 induction k with
 | zero => intro l p h; simp [msgsN] at h; rw [h.1]; rfl
 | succ k ih =>
  intro l p h
  rw [msgsN] at h
  cases hq : msgsN bs at_ k with
  | none => rw [hq] at h; cases h
  | some lp =>
   obtain ⟨l', p'⟩ := lp
   rw [hq] at h
   simp only at h
   split at h
   ·simp only [Option.some.injEq, Prod.mk.injEq] at h
    rw [← h.1]; simp [ih hq]
   ·cases h
structure ForkV where
 kids : List Int
 cuts : List Int
 buf : List (Int × Int × Int)
def forkC (bs : List Int) (p : Int) (ks cs : List Int) : Option (ForkV × Int) := match countN bs p 0 6 with
 | none => none
 | some (m, q) => match msgsN bs q m.toNat with
  | none => none
  | some (ms, r) => some (⟨ks, cs, ms⟩, r)
def forkB (bs : List Int) (p : Int) (k : Nat) (ks : List Int) : Option (ForkV × Int) := match numsN bs p k with
 | none => none
 | some (cs, q) => forkC bs q ks cs
def forkA (bs : List Int) (p : Int) (k : Nat) : Option (ForkV × Int) := match numsN bs p (k + 1) with
 | none => none
 | some (ks, q) => forkB bs q k ks
def forkN (bs : List Int) (at_ : Int) : Option (ForkV × Int) := match countN bs at_ 1 4 with
 | none => none
 | some (n, p) => forkA bs p (n - 1).toNat

abbrev treeZ : Value := .agg #[.bool false, .slice none 0 0, .slice none 0 0, .slice none 0 0, .slice none 0 0]
def ForkPost (ea : Addr) (P : Nat) (base : Nat) (g : Option (ForkV × Int)) (e : Ending) (w' : World) : Prop := match g with
 | some (f, p) => ∃ (vc vb vk : Value) (M N : Nat), e = .returned (.tuple #[.agg #[.bool false, .slice none 0 0, vc, .slice (some ⟨M, 0, none⟩) f.kids.length f.kids.length, vb], vk]) ∧ base ≤ N ∧ OwnI base w' vk f.kids ∧ (∀ g, vk.ownBlock = some g → g < N) ∧ OwnI N w' vc f.cuts ∧ OwnE w' N 54 3 vb f.buf.length (flatM f.buf) ∧
   N ≤ M ∧ w'.heap[M]? = some (.cells (madeCells #[.bool false, .slice none 0 0, .slice none 0 0, .slice none 0 0, .slice none 0 0] (f.kids.length * 5)) 29 (0, 0)) ∧ PlaceIs w' P p
 | none => e = .panicked (boom ea)

theorem Tryd.infoTree : (Tryd.prog.info? 29).map (fun i => (i.zero, i.size, i.bytes)) = some (some treeZ, 5, 104) := by kernel_rfl
theorem Tryd.infoMsg : (Tryd.prog.info? 54).map (fun i => (i.zero, i.size, i.bytes)) = some (some (.agg #[.int .i64 0, .int .i64 0, .int .i64 0]), 3, 24) := by kernel_rfl
theorem make_trees (k : Nat) (hk : k ≤ 3) (u : World) : (Instr.makeSlice 26 (.int .i64 ((k : Int) + 1)) (.int .i64 ((k : Int) + 1))).run Tryd.prog u = .ok (.slice (some ⟨u.heap.size, 0, none⟩) (k + 1) (k + 1)) (u.alloc (.cells (madeCells #[.bool false, .slice none 0 0, .slice none 0 0, .slice none 0 0, .slice none 0 0] ((k + 1) * 5)) 29)) := by
 obtain ⟨i0, hi, hz0, hz1, hz2⟩ := info_parts Tryd.infoTree
 have := run_make (P := Tryd.prog) u 26 29 i0 treeZ Tryd.underlying26 hi hz0 .i64 .i64 ((k + 1 : Nat) : Int) ((k + 1 : Nat) : Int) (by omega) (Int.le_refl _) (by rw [hz2]; omega) (by omega)
 rw [hz1] at this
 simpa [Value.cells] using this

structure ForkR (w4 : World) (P k : Nat) (q : Int) (c : Option (Value × List Int)) (m a : Option Nat) (u : World) : Prop where
 chg : Chg (fun g => g = P) w4 u
 place : PlaceIs u P q
 low : P < w4.heap.size
 cuts : ∀ x, c = some x → OwnI w4.heap.size u x.1 x.2
 made : ∀ M, m = some M → w4.heap.size ≤ M ∧ u.heap[M]? = some (.cells (madeCells #[.bool false, .slice none 0 0, .slice none 0 0, .slice none 0 0, .slice none 0 0] ((k + 1) * 5)) 29 (0, 0))
 box : ∀ A, a = some A → w4.heap.size ≤ A ∧ u.heap[A]? = some (.cells #[.bool false, .slice none 0 0, .slice none 0 0, .slice none 0 0, .slice none 0 0] 29 (0, 0))
 ne : ∀ M A, m = some M → a = some A → M ≠ A
variable {w4 u u' : World} {P k : Nat} {q q' : Int} {c : Option (Value × List Int)} {m a : Option Nat}
theorem ForkR.start (h : PlaceIs w4 P q) : ForkR w4 P k q none none none w4 := ⟨Chg.refl _ _, h, h.lt, (fun _ h => by cases h), (fun _ h => by cases h), (fun _ h => by cases h), (fun _ _ h => by cases h)⟩
theorem ForkR.drew (h : ForkR w4 P k q none none none w4) : ForkR w4 P k q none none none w4.drew := ⟨h.chg.drew, h.place, h.low, (fun _ h => by cases h), (fun _ h => by cases h), (fun _ h => by cases h), (fun _ _ h => by cases h)⟩
theorem ForkR.below (h : ForkR w4 P k q c m a u) (hb : Below u.heap.size u u') : ForkR w4 P k q c m a u' :=
 have hc : Chg (fun g => g = P) u u' := Chg.of_below hb
 ⟨h.chg.trans hc (fun _ _ h => h), h.place.below hb, h.low, fun x e => owns_below (h.cuts x e) hb, fun M e => ⟨(h.made M e).1, row_chg (h.made M e).2 hc (by have := (h.made M e).1; have := h.low; omega)⟩,
  fun A e => ⟨(h.box A e).1, row_chg (h.box A e).2 hc (by have := (h.box A e).1; have := h.low; omega)⟩, h.ne⟩
theorem ForkR.alloc (h : ForkR w4 P k q c m none u) : ForkR w4 P k q c m (some u.heap.size) (u.alloc (.cells #[.bool false, .slice none 0 0, .slice none 0 0, .slice none 0 0, .slice none 0 0] 29)) :=
 have hb := h.below (bel_new u (.cells #[.bool false, .slice none 0 0, .slice none 0 0, .slice none 0 0, .slice none 0 0] 29))
 { hb with box := fun A e => by (cases e; exact ⟨h.chg.size, heap_alloc_new _ _⟩), ne := fun M A e e2 => by cases e2; have := (Array.getElem?_eq_some_iff.1 (h.made M e).2).1; omega }
theorem ForkR.make (h : ForkR w4 P k q c none a u) : ForkR w4 P k q c (some u.heap.size) a (u.alloc (.cells (madeCells #[.bool false, .slice none 0 0, .slice none 0 0, .slice none 0 0, .slice none 0 0] ((k + 1) * 5)) 29)) :=
 have hb := h.below (bel_new u (.cells (madeCells #[.bool false, .slice none 0 0, .slice none 0 0, .slice none 0 0, .slice none 0 0] ((k + 1) * 5)) 29))
 { hb with made := fun A e => by (cases e; exact ⟨h.chg.size, heap_alloc_new _ _⟩), ne := fun M A e e2 => by cases e; have := (Array.getElem?_eq_some_iff.1 (h.box A e2).2).1; omega }
theorem ForkR.call {v : Value} {l : List Int} (h : ForkR w4 P k q none m a u) (hc : Chg (fun g => g = P) u u') (ho : OwnI u.heap.size u' v l) (hp : PlaceIs u' P q') : ForkR w4 P k q' (some (v, l)) m a u' :=
 ⟨h.chg.trans hc (fun _ _ h => h), hp, h.low, fun x e => by (cases e; exact owns_mono ho h.chg.size), fun M e => ⟨(h.made M e).1, row_chg (h.made M e).2 hc (by have := (h.made M e).1; have := h.low; omega)⟩,
  fun A e => ⟨(h.box A e).1, row_chg (h.box A e).2 hc (by have := (h.box A e).1; have := h.low; omega)⟩, h.ne⟩
structure ForkM (w4 : World) (P k : Nat) (p4 : Int) (A M : Nat) (vc : Value) (cs : List Int) (q : Int) (bs : List Int) (u : World) : Prop where
 chg : Chg (fun g => g = P) w4 u
 place : PlaceIs u P q
 low : P < w4.heap.size
 told : numsN bs p4 k = some (cs, q)
 cuts : OwnI w4.heap.size u vc cs
 free : ¬ vc.ownBlock = some A
 madeLe : w4.heap.size ≤ M
 made : u.heap[M]? = some (.cells (madeCells #[.bool false, .slice none 0 0, .slice none 0 0, .slice none 0 0, .slice none 0 0] ((k + 1) * 5)) 29 (0, 0))
 boxLe : w4.heap.size ≤ A
 box : u.heap[A]? = some (.cells #[.bool false, .slice none 0 0, vc, .slice (some ⟨M, 0, none⟩) (k + 1) (k + 1), .slice none 0 0] 29 (0, 0))
 ne : M ≠ A
theorem int_block {w : World} {base A : Nat} {v : Value} {l : List Int} {cs : Array Value} (h : OwnI base w v l) (hA : w.heap[A]? = some (.cells cs 29 (0, 0))) : ¬ v.ownBlock = some A := by
 intro e
 obtain ⟨_, ⟨rfl, _⟩ | ⟨g, cap, cur, rfl, _, hg, _⟩⟩ := h
 ·cases e
 ·have : g = A := by simpa [Value.ownBlock] using e
  subst this
  rw [hg] at hA
  simp at hA
theorem ForkR.set {M A n qc : Nat} {ac : Option Addr} {cs bs : List Int} {p4 : Int} (h : ForkR w4 P k q (some (.slice ac n qc, cs)) (some M) (some A) u) (hg : numsN bs p4 k = some (cs, q)) :
  ForkM w4 P k p4 A M (.slice ac n qc) cs q bs (sef5 u A (.bool false) (.slice none 0 0) (.slice ac n qc) (.slice (some ⟨M, 0, none⟩) (k + 1) (k + 1)) (.slice none 0 0)) := by
 have hC := sef5_chg u A (.bool false) (.slice none 0 0) (.slice ac n qc) (.slice (some ⟨M, 0, none⟩) (k + 1) (k + 1)) (.slice none 0 0)
 have hA := (h.box A rfl)
 have hM := (h.made M rfl)
 have hf := int_block (h.cuts _ rfl) hA.2
 have hl := h.low
 refine ⟨h.chg.trans hC (fun g hg e => by omega), ?_, h.low, hg, owns_chg (h.cuts _ rfl) hC (fun g hg e => hf (e ▸ hg)), hf, hM.1, row_chg hM.2 hC (h.ne M A rfl rfl), hA.1, sef5_at _ _ _ _ _ hA.2, h.ne M A rfl rfl⟩
 unfold PlaceIs
 rw [hC.block P h.place.lt (by omega)]
 exact h.place
theorem flatM_oneC (l : List (Int × Int × Int)) : ∀ y ∈ flatM l, y.oneCell' = true := by
 intro y hy
 obtain ⟨m, _, hm⟩ := List.mem_flatMap.1 hy
 simp only [List.mem_cons, List.not_mem_nil, or_false] at hm
 rcases hm with rfl | rfl | rfl <;> rfl
theorem roomM {n m : Nat} (h : n + m ≤ 100000) : n + m ≤ maxLen ∧ (n + m) * 24 ≤ 140737488355328 := ⟨by unfold maxLen; omega, by omega⟩
end
end Go.Proofs.YtbmcojelgbkafaaDoor
