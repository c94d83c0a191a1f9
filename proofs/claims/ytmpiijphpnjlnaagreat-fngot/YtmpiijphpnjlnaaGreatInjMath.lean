/-
  What the model's Inject and Drain make of a tree, as plain functions.
-/
import Derived.Test.YtmpiijphpnjlnaaGreatCopy
import Derived.Test.YtmpiijphpnjlnaaGreatDrain
namespace Go.Proofs.YtmpiijphpnjlnaaGreat
open Go.RowKit

def rootOf (g : TM) : Tr := rootM g.1.length g
/-- the tree behind a message -/
def injF (T : Tr) (m : Int × Int × Int) : Tr :=
  if okT T = true ∧ msgOkB m.1 m.2.1 m.2.2 = true ∧ ¬ m.1 = 4 then (if okT (rootOf (giveM (depthT T) T [m])) = true then rootOf (giveM (depthT T) T [m]) else T) else T
/-- the tree drained -/
def drnF (T : Tr) : Tr := if okT T = true then (if okT (rootOf (drainM (depthT T) T)) = true then rootOf (drainM (depthT T) T) else T) else T

theorem ok_sh {T : Tr} (h : okT T = true) : shT (depthT T) T ∧ depthT T ≤ 7 ∧ wt (depthT T) T + 2 ≤ 49152 := by
  have h0 : depthT T ≠ 0 := by
    unfold okT at h
    have := of_decide_eq_true h
    omega
  have h1 : shT (depthT T) T := sh_of_depth h0
  have h2 : depthT T ≤ 7 := depthF_le _ _ _ _
  refine ⟨h1, h2, Nat.le_trans (wt_le _ _ h1) ?_⟩
  have : 4 ^ depthT T ≤ 4 ^ 7 := Nat.pow_le_pow_right (by decide) h2
  omega

theorem sizeT_stable : ∀ (e : Nat) (T : Tr), shT e T → ∀ n, e ≤ n → sizeT n T = sizeT e T
  | 0, _, h, _, _ => h.elim
  | e + 1, T, h, n, hn => by
    cases n with
    | zero => omega
    | succ n =>
      have hk : T.kids.map (sizeT n) = T.kids.map (sizeT e) := by
        rcases h with ⟨_, _, _, _, h, _⟩ | ⟨_, _, _, _, _, _, h⟩
        · rw [h]; rfl
        · exact List.map_congr_left fun t ht => sizeT_stable e t (h t ht) n (by omega)
      show T.pairs.length + (T.cuts.length + (T.kids.length + (T.kids.map (sizeT n)).sum + T.buf.length)) = T.pairs.length + (T.cuts.length + (T.kids.length + (T.kids.map (sizeT e)).sum + T.buf.length))
      rw [hk]
theorem sh_size {e : Nat} {T : Tr} (h : shT e T) {n : Nat} (hn : e ≤ n) : sizeT n T ≤ 7 * wt e T := by
  rw [sizeT_stable e T h n hn]
  have := size_wt e T h
  omega
theorem TreeD.down : ∀ {e n : Nat} {w : World} {F : Nat → Prop} {x : TV} {T : Tr}, shT e T → TreeD n w F x T → TreeD e w F x T
  | 0, _, _, _, _, _, h, _ => h.elim
  | _ + 1, 0, _, _, _, _, _, h => h.elim
  | e + 1, n + 1, w, F, x, T, hs, ⟨h1, h2, h3, h4, h5, xs, K, k1, k2, k3, k4, k5⟩ => by
    refine ⟨h1, h2, h3, h4, h5, xs, K, k1, k2, fun i hi => ?_, k4, k5⟩
    rcases hs with ⟨_, _, _, _, h, _⟩ | ⟨_, _, _, _, _, _, h⟩
    · rw [k1, h] at hi; exact absurd hi (Nat.not_lt_zero _)
    · exact TreeD.down (h _ (getD_mem (by omega))) (k3 i hi)

theorem give_root {d : Nat} {T : Tr} {ms : ML} (hs : shT d T) (hp : 0 < ms.length) : ∃ e, e ≤ d + (giveM d T ms).1.length ∧ shT e (rootOf (giveM d T ms)) ∧ wt e (rootOf (giveM d T ms)) ≤ wt d T + ms.length := by
  obtain ⟨h1, h2⟩ := giveM_ok d T ms hs hp
  obtain ⟨e, _, e2, e3, e4⟩ := rootM_ok _ d (giveM d T ms) h1 (Nat.le_refl _)
  exact ⟨e, e2, e3, Nat.le_trans e4 h2⟩
theorem drain_root {d : Nat} {T : Tr} (hs : shT d T) : ∃ e, e ≤ d + (drainM d T).1.length ∧ shT e (rootOf (drainM d T)) ∧ wt e (rootOf (drainM d T)) ≤ wt d T := by
  obtain ⟨h1, h2⟩ := drainM_ok d T hs
  obtain ⟨e, _, e2, e3, e4⟩ := rootM_ok _ d (drainM d T) h1 (Nat.le_refl _)
  exact ⟨e, e2, e3, Nat.le_trans e4 h2⟩
theorem injF_ok {T : Tr} (h : okT T = true) (m : Int × Int × Int) : okT (injF T m) = true := by
  unfold injF
  split
  · split
    · assumption
    · exact h
  · exact h
theorem drnF_ok {T : Tr} (h : okT T = true) : okT (drnF T) = true := by
  rw [drnF, if_pos h]
  split
  · assumption
  · exact h

end Go.Proofs.YtmpiijphpnjlnaaGreat
