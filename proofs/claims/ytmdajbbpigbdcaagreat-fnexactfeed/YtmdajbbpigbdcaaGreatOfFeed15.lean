/-
  The copier's map, when something is laid into it.
  Trees in memory of their own, each row apart from all others.
-/
import Derived.Test.YtmdajbbpigbdcaaGreatOfFeed14
namespace Go.Proofs.YtmdajbbpigbdcaaGreat
set_option maxRecDepth 100000
set_option maxHeartbeats 8000000
section
open Go.RowKit

def setM (w : World) (M : Nat) (o : Obj) : World := { w with heap := w.heap.setIfInBounds M o }

theorem chg_setM (w : World) (M : Nat) (o : Obj) : Chg (fun g => g = M) w (setM w M o) :=
 ⟨rfl, rfl, rfl, by simp [setM], fun k _ hk => by simp [setM, Array.getElem?_setIfInBounds]; intro e; exact absurd e.symm hk⟩

theorem Plain.chg {P : Nat → Prop} {w w' : World} {b : Nat} (h : Plain w b) (hc : Chg P w w') (hP : ¬ P b) : Plain w' b := by
 obtain ⟨c, t, h⟩ := h
 exact ⟨c, t, (hc.block b (Array.getElem?_eq_some_iff.1 h).1 hP).trans h⟩

theorem sameKey (a : Addr) (n : Int) : Instr.sameBits 10000 (keyV a n) (keyV a n) = true := by
 show Instr.sameBits (9999 + 1) _ _ = true
 unfold keyV
 rw [Instr.sameBits]
 simp [Instr.sameBits]

theorem put_made {w : World} {M : Nat} {V : Nat → Prop} (hM : MadeAt w M V) (a : Addr) (n : Int) (x : Value) (ha : Plain w a.block) : ∃ es' clock', (Instr.mapUpdate 161 (.map (some M)) (keyV a n) x).run Tryz.prog w = .ok () (setM w M (.map es' clock')) ∧ MadeAt (setM w M (.map es' clock')) M (fun g => V g ∨ g = a.block) := by
 obtain ⟨es, clock, hb, hk⟩ := hM
 have hu : Tryz.prog.underlying 161 = some (.map 174 42) := by kernel_rfl
 obtain ⟨r, hr, hq⟩ := findKey_made a n ha es.toList hk
 have hMlt : M < w.heap.size := (Array.getElem?_eq_some_iff.1 hb).1
 have hset : ∀ o : Obj, (setObj M o).run Tryz.prog w = .ok () (setM w M o) := fun o => by simp [setObj, Sem.run, hb, setM]
 have hne : ∀ b, Plain w b → ¬ b = M := fun b ⟨c, t, h⟩ e => by subst e; rw [hb] at h; simp at h
 have hM2 : ∀ o : Obj, (setM w M o).heap[M]? = some o := fun o => by simp [setM, hMlt]
 cases r with
 | none =>
  refine ⟨es.push { key := keyV a n, val := x, born := clock }, clock + 1, ?_, _, _, hM2 _, fun e he => ?_⟩
  ·simp [Instr.mapUpdate, run_underlying hu, MapKept.run_getObj_map hb, check_key, hr w rfl, hset]
  ·simp only [Array.toList_push, List.mem_append, List.mem_singleton] at he
   rcases he with he | rfl
   ·obtain ⟨b, m, h1, h2, h3⟩ := hk e he
    exact ⟨b, m, h1, h2.chg (chg_setM _ _ _) (hne _ h2), .inl h3⟩
   ·exact ⟨a, n, rfl, ha.chg (chg_setM _ _ _) (hne _ ha), .inr rfl⟩
 | some r =>
  obtain ⟨j, v⟩ := r
  obtain ⟨hV, e0, h0, h1⟩ := hq j v rfl
  have hj : es[j]? = some e0 := by simpa using h0
  refine ⟨es.modify j fun e => { e with key := keyV a n, val := x }, clock, ?_, _, _, hM2 _, fun e he => ?_⟩
  ·simp [Instr.mapUpdate, run_underlying hu, MapKept.run_getObj_map hb, check_key, hr w rfl, hset, hj, h1, Instr.keyThatStays, sameKey]
  ·obtain ⟨i, hi, rfl⟩ := List.getElem_of_mem he
   simp only [Array.getElem_toList, Array.getElem_modify]
   split
   ·exact ⟨a, n, rfl, ha.chg (chg_setM _ _ _) (hne _ ha), .inr rfl⟩
   ·have hi' : i < es.size := by simpa using hi
    obtain ⟨b, m, k1, k2, k3⟩ := hk es[i] (by simp)
    exact ⟨b, m, k1, k2.chg (chg_setM _ _ _) (hne _ k2), .inl k3⟩

theorem MadeAt.chg {P : Nat → Prop} {w w' : World} {M : Nat} {V : Nat → Prop} (h : MadeAt w M V) (hc : Chg P w w') (hM : ¬ P M) (hV : ∀ g, P g → ∀ c t, w.heap[g]? = some (.cells c t (0, 0)) → ∃ c' t', w'.heap[g]? = some (.cells c' t' (0, 0))) : MadeAt w' M V := by
 obtain ⟨es, clock, hb, hk⟩ := h
 refine ⟨es, clock, (hc.block M (Array.getElem?_eq_some_iff.1 hb).1 hM).trans hb, fun e he => ?_⟩
 obtain ⟨a, n, h1, ⟨c, t, h2⟩, h3⟩ := hk e he
 refine ⟨a, n, h1, ?_, h3⟩
 by_cases hp : P a.block
 ·exact hV _ hp c t h2
 ·exact ⟨c, t, (hc.block _ (Array.getElem?_eq_some_iff.1 h2).1 hp).trans h2⟩
theorem MadeAt.step {w w' : World} {M : Nat} {V : Nat → Prop} (h : MadeAt w M V) (hb : Below w.heap.size w w') : MadeAt w' M V := by
 obtain ⟨es, clock, hb', hk⟩ := h
 refine ⟨es, clock, (hb.block M (Array.getElem?_eq_some_iff.1 hb').1).trans hb', fun e he => ?_⟩
 obtain ⟨a, n, h1, ⟨c, t, h2⟩, h3⟩ := hk e he
 exact ⟨a, n, h1, ⟨c, t, (hb.block _ (Array.getElem?_eq_some_iff.1 h2).1).trans h2⟩, h3⟩
end
section
open Go.RowKit

theorem OwnE.frame {w w' : World} {base e size n : Nat} {v : Value} {xs : List Value} (h : OwnE w base e size v n xs) (hf : ∀ g, wrB v g → g < w.heap.size → w'.heap[g]? = w.heap[g]?) : OwnE w' base e size v n xs := by
 rcases h with h | h
 ·obtain ⟨hl, h | ⟨g, cap, cur, rfl, hg, hh, hn, hcap, hsz, htake⟩⟩ := h
  ·exact .inl ⟨hl, .inl h⟩
  ·rcases Nat.eq_zero_or_pos cap with h1 | h1
   ·subst h1
    have : n = 0 := by omega
    subst this
    exact .inr ⟨rfl, List.length_eq_zero_iff.1 (by omega), g, rfl⟩
   ·exact .inl ⟨hl, .inr ⟨g, cap, cur, rfl, hg, (hf g ⟨_, _, rfl, h1⟩ (Array.getElem?_eq_some_iff.1 hh).1).trans hh, hn, hcap, hsz, htake⟩⟩
 ·exact .inr h

def TreeD : Nat → World → (Nat → Prop) → TV → Tr → Prop
 | 0, _, _, _, _ => False
 | n + 1, w, F, x, T => x.lf = T.leaf ∧ OwnE w 0 156 2 x.p T.pairs.length (flatP T.pairs) ∧ OwnE w 0 3 1 x.c T.cuts.length (flatI T.cuts) ∧ OwnE w 0 109 3 x.b T.buf.length (flatM T.buf) ∧
   (∀ g, wrB x.p g ∨ wrB x.c g ∨ wrB x.b g ∨ wrB x.k g → F g) ∧
   ∃ (xs : List TV) (K : Nat → Nat → Prop), xs.length = T.kids.length ∧ OwnE w 0 45 5 x.k xs.length (flatT xs) ∧
    (∀ i, i < xs.length → TreeD n w (K i) (tvAt xs i) (T.kids.getD i noTr)) ∧
    (∀ i g, i < xs.length → K i g → F g ∧ ¬ (wrB x.p g ∨ wrB x.c g ∨ wrB x.b g ∨ wrB x.k g)) ∧
    (∀ i j g, i < j → j < xs.length → K i g → ¬ K j g)

theorem TreeD.treeF : ∀ {n : Nat} {w : World} {F : Nat → Prop} {x : TV} {T : Tr}, TreeD n w F x T → TreeF n w F x T
 | 0, _, _, _, _, h => h.elim
 | n + 1, w, F, x, T, ⟨h1, h2, h3, h4, h5, xs, K, k1, k2, k3, k4, k5⟩ => by
  refine TreeF.mk h1 (h2.rowF.mono (fun g hg => h5 g (.inl hg))) (h3.rowF.mono (fun g hg => h5 g (.inr (.inl hg)))) (h4.rowF.mono (fun g hg => h5 g (.inr (.inr (.inl hg))))) ⟨xs, k1, ?_, fun i hi => (k3 i hi).treeF.mono (fun g hg => (k4 i g hi hg).1)⟩
  have := k2.rowF.mono (G := F) (fun g hg => h5 g (.inr (.inr (.inr hg))))
  exact this
theorem TreeD.mono : ∀ {n : Nat} {w : World} {F G : Nat → Prop} {x : TV} {T : Tr}, TreeD n w F x T → (∀ g, F g → G g) → TreeD n w G x T
 | 0, _, _, _, _, _, h, _ => h.elim
 | _ + 1, _, _, _, _, _, ⟨h1, h2, h3, h4, h5, xs, K, k1, k2, k3, k4, k5⟩, hk => ⟨h1, h2, h3, h4, fun g hg => hk g (h5 g hg), xs, K, k1, k2, k3, fun i g hi hg => ⟨hk g (k4 i g hi hg).1, (k4 i g hi hg).2⟩, k5⟩
theorem TreeD.frame : ∀ {n : Nat} {w w' : World} {F : Nat → Prop} {x : TV} {T : Tr}, TreeD n w F x T → (∀ g, F g → g < w.heap.size → w'.heap[g]? = w.heap[g]?) → TreeD n w' F x T
 | 0, _, _, _, _, _, h, _ => h.elim
 | _ + 1, _, _, _, _, _, ⟨h1, h2, h3, h4, h5, xs, K, k1, k2, k3, k4, k5⟩, hf => ⟨h1, h2.frame (fun g hg => hf g (h5 g (.inl hg))), h3.frame (fun g hg => hf g (h5 g (.inr (.inl hg)))), h4.frame (fun g hg => hf g (h5 g (.inr (.inr (.inl hg))))), h5, xs, K, k1, k2.frame (fun g hg => hf g (h5 g (.inr (.inr (.inr hg))))), fun i hi => (k3 i hi).frame (fun g hg => hf g (k4 i g hi hg).1), k4, k5⟩
theorem TreeD.lt : ∀ {n : Nat} {w : World} {F : Nat → Prop} {x : TV} {T : Tr}, TreeD n w F x T → TreeD n w (fun g => F g ∧ g < w.heap.size) x T
 | 0, _, _, _, _, h => h.elim
 | _ + 1, _, _, _, _, ⟨h1, h2, h3, h4, h5, xs, K, k1, k2, k3, k4, k5⟩ => ⟨h1, h2, h3, h4, fun g hg => ⟨h5 g hg, by
   rcases hg with h | h | h | h
   ·exact (h2.lt g h).2
   ·exact (h3.lt g h).2
   ·exact (h4.lt g h).2
   ·exact (k2.lt g h).2⟩, xs, fun i g => K i g ∧ g < _, k1, k2, fun i hi => (k3 i hi).lt, fun i g hi hg => ⟨⟨(k4 i g hi hg.1).1, hg.2⟩, (k4 i g hi hg.1).2⟩, fun i j g hij hj hg hg' => k5 i j g hij hj hg.1 hg'.1⟩
theorem TreeD.chg {n : Nat} {w w' : World} {F P : Nat → Prop} {x : TV} {T : Tr} (h : TreeD n w F x T) (hc : Chg P w w') (hd : ∀ g, F g → ¬ P g) : TreeD n w' F x T := h.frame fun g hg hl => hc.block g hl (hd g hg)
theorem TreeD.below {n : Nat} {w w' : World} {F : Nat → Prop} {x : TV} {T : Tr} (h : TreeD n w F x T) (hb : Below w.heap.size w w') : TreeD n w' F x T := h.frame fun g _ hl => hb.block g hl
end
end Go.Proofs.YtmdajbbpigbdcaaGreat
