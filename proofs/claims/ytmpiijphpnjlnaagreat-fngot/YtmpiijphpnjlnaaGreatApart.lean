/-
  Trees in memory of their own, each row apart from all others.
-/
import Derived.Test.YtmpiijphpnjlnaaGreatOutM
import Derived.Test.YtmpiijphpnjlnaaGreatPutT
namespace Go.Proofs.YtmpiijphpnjlnaaGreat
open Go.RowKit

theorem OwnE.frame {w w' : World} {base e size n : Nat} {v : Value} {xs : List Value} (h : OwnE w base e size v n xs) (hf : ∀ g, wrB v g → g < w.heap.size → w'.heap[g]? = w.heap[g]?) : OwnE w' base e size v n xs := by
  rcases h with h | h
  · obtain ⟨hl, h | ⟨g, cap, cur, rfl, hg, hh, hn, hcap, hsz, htake⟩⟩ := h
    · exact .inl ⟨hl, .inl h⟩
    · rcases Nat.eq_zero_or_pos cap with h1 | h1
      · subst h1
        have : n = 0 := by omega
        subst this
        exact .inr ⟨rfl, List.length_eq_zero_iff.1 (by omega), g, rfl⟩
      · exact .inl ⟨hl, .inr ⟨g, cap, cur, rfl, hg, (hf g ⟨_, _, rfl, h1⟩ (Array.getElem?_eq_some_iff.1 hh).1).trans hh, hn, hcap, hsz, htake⟩⟩
  · exact .inr h

/-- A TREE IN MEMORY OF ITS OWN: F are its blocks. -/
def TreeD : Nat → World → (Nat → Prop) → TV → Tr → Prop
  | 0, _, _, _, _ => False
  | n + 1, w, F, x, T => x.lf = T.leaf ∧ OwnE w 0 52 2 x.p T.pairs.length (flatP T.pairs) ∧ OwnE w 0 3 1 x.c T.cuts.length (flatI T.cuts) ∧ OwnE w 0 37 3 x.b T.buf.length (flatM T.buf) ∧
      (∀ g, wrB x.p g ∨ wrB x.c g ∨ wrB x.b g ∨ wrB x.k g → F g) ∧
      ∃ (xs : List TV) (K : Nat → Nat → Prop), xs.length = T.kids.length ∧ OwnE w 0 29 5 x.k xs.length (flatT xs) ∧
        (∀ i, i < xs.length → TreeD n w (K i) (tvAt xs i) (T.kids.getD i noTr)) ∧
        (∀ i g, i < xs.length → K i g → F g ∧ ¬ (wrB x.p g ∨ wrB x.c g ∨ wrB x.b g ∨ wrB x.k g)) ∧
        (∀ i j g, i < j → j < xs.length → K i g → ¬ K j g)

theorem TreeD.treeF : ∀ {n : Nat} {w : World} {F : Nat → Prop} {x : TV} {T : Tr}, TreeD n w F x T → TreeF n w F x T
  | 0, _, _, _, _, h => h.elim
  | n + 1, w, F, x, T, ⟨h1, h2, h3, h4, h5, xs, K, k1, k2, k3, k4, k5⟩ => by
    refine TreeF.mk h1 (h2.rowF.mono (fun g hg => h5 g (.inl hg))) (h3.rowF.mono (fun g hg => h5 g (.inr (.inl hg)))) (h4.rowF.mono (fun g hg => h5 g (.inr (.inr (.inl hg))))) ⟨xs, k1, ?_, fun i hi => (k3 i hi).treeF.mono (fun g hg => (k4 i g hi hg).1)⟩
    have := k2.rowF.mono (G := F) (fun g hg => h5 g (.inr (.inr (.inr hg))))
    exact this
theorem TreeD.mono : ∀ {n : Nat} {w : World} {F G : Nat → Prop} {x : TV} {T : Tr}, TreeD n w F x T → (∀ g, F g → G g) → TreeD n w G x T
  | 0, _, _, _, _, _, h, _ => h.elim
  | _ + 1, _, _, _, _, _, ⟨h1, h2, h3, h4, h5, xs, K, k1, k2, k3, k4, k5⟩, hk => ⟨h1, h2, h3, h4, fun g hg => hk g (h5 g hg), xs, K, k1, k2, k3, fun i g hi hg => ⟨hk g (k4 i g hi hg).1, (k4 i g hi hg).2⟩, k5⟩
theorem TreeD.frame : ∀ {n : Nat} {w w' : World} {F : Nat → Prop} {x : TV} {T : Tr}, TreeD n w F x T → (∀ g, F g → g < w.heap.size → w'.heap[g]? = w.heap[g]?) → TreeD n w' F x T
  | 0, _, _, _, _, _, h, _ => h.elim
  | _ + 1, _, _, _, _, _, ⟨h1, h2, h3, h4, h5, xs, K, k1, k2, k3, k4, k5⟩, hf => ⟨h1, h2.frame (fun g hg => hf g (h5 g (.inl hg))), h3.frame (fun g hg => hf g (h5 g (.inr (.inl hg)))), h4.frame (fun g hg => hf g (h5 g (.inr (.inr (.inl hg))))), h5, xs, K, k1, k2.frame (fun g hg => hf g (h5 g (.inr (.inr (.inr hg))))), fun i hi => (k3 i hi).frame (fun g hg => hf g (k4 i g hi hg).1), k4, k5⟩
theorem TreeD.lt : ∀ {n : Nat} {w : World} {F : Nat → Prop} {x : TV} {T : Tr}, TreeD n w F x T → TreeD n w (fun g => F g ∧ g < w.heap.size) x T
  | 0, _, _, _, _, h => h.elim
  | _ + 1, _, _, _, _, ⟨h1, h2, h3, h4, h5, xs, K, k1, k2, k3, k4, k5⟩ => ⟨h1, h2, h3, h4, fun g hg => ⟨h5 g hg, by
      rcases hg with h | h | h | h
      · exact (h2.lt g h).2
      · exact (h3.lt g h).2
      · exact (h4.lt g h).2
      · exact (k2.lt g h).2⟩, xs, fun i g => K i g ∧ g < _, k1, k2, fun i hi => (k3 i hi).lt, fun i g hi hg => ⟨⟨(k4 i g hi hg.1).1, hg.2⟩, (k4 i g hi hg.1).2⟩, fun i j g hij hj hg hg' => k5 i j g hij hj hg.1 hg'.1⟩
theorem TreeD.chg {n : Nat} {w w' : World} {F P : Nat → Prop} {x : TV} {T : Tr} (h : TreeD n w F x T) (hc : Chg P w w') (hd : ∀ g, F g → ¬ P g) : TreeD n w' F x T := h.frame fun g hg hl => hc.block g hl (hd g hg)
theorem TreeD.below {n : Nat} {w w' : World} {F : Nat → Prop} {x : TV} {T : Tr} (h : TreeD n w F x T) (hb : Below w.heap.size w w') : TreeD n w' F x T := h.frame fun g _ hl => hb.block g hl
theorem TreeD.up : ∀ {n : Nat} {w : World} {F : Nat → Prop} {x : TV} {T : Tr}, TreeD n w F x T → TreeD (n + 1) w F x T
  | 0, _, _, _, _, h => h.elim
  | _ + 1, _, _, _, _, ⟨h1, h2, h3, h4, h5, xs, K, k1, k2, k3, k4, k5⟩ => ⟨h1, h2, h3, h4, h5, xs, K, k1, k2, fun i hi => (k3 i hi).up, k4, k5⟩
theorem TreeD.le {n m : Nat} {w : World} {F : Nat → Prop} {x : TV} {T : Tr} (h : TreeD n w F x T) (hm : n ≤ m) : TreeD m w F x T := by
  obtain ⟨k, rfl⟩ : ∃ k, m = n + k := ⟨m - n, by omega⟩
  clear hm
  induction k with
  | zero => exact h
  | succ k ih => exact ih.up

end Go.Proofs.YtmpiijphpnjlnaaGreat
