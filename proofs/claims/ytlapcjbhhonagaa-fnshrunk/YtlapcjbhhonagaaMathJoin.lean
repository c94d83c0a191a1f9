/-
  The program's way to join adds: what its map of puts tells; plain mathematics, and what lies apart in memory.
-/
import Derived.Test.YtlapcjbhhonagaaImplShrinkB
namespace Go.Proofs.Ytlapcjbhhonagaa
open Go.RowKit

/-- the map of puts leads to puts of its keys -/
def JInv (A : ML) (P : PL) : Prop := ∀ x, (getP P x).2 = true → ∃ n : Nat, (getP P x).1 = n ∧ n < A.length ∧ mO A n = 1 ∧ mK A n = x
theorem mK_append_lt {A : ML} {m : Int × Int × Int} {n : Nat} (h : n < A.length) : mK (A ++ [m]) n = mK A n := by simp [mK, List.getD, List.getElem?_append_left h]
theorem mK_append_eq {A : ML} {m : Int × Int × Int} : mK (A ++ [m]) A.length = m.2.1 := by simp [mK, List.getD]
theorem JInv.app {A : ML} {P : PL} (h : JInv A P) (m : Int × Int × Int) : JInv (A ++ [m]) P := by
  intro x hx
  obtain ⟨n, h1, h2, h3, h4⟩ := h x hx
  exact ⟨n, h1, by simp; omega, by rw [mO_append_lt h2]; exact h3, by rw [mK_append_lt h2]; exact h4⟩
theorem JInv.put {A : ML} {P : PL} (h : JInv A P) (hP : Asc P) (k v : Int) : JInv (A ++ [(1, k, v)]) (putF P k A.length) := by
  intro x hx
  by_cases he : x = k
  · subst he
    rw [getP_putF_same hP]
    exact ⟨A.length, rfl, by simp, mO_append_eq, mK_append_eq⟩
  · rw [getP_putF_other hP he] at hx ⊢
    obtain ⟨n, h1, h2, h3, h4⟩ := h x hx
    exact ⟨n, h1, by simp; omega, by rw [mO_append_lt h2]; exact h3, by rw [mK_append_lt h2]; exact h4⟩
theorem JInv.set {A : ML} {P : PL} (h : JInv A P) {n : Nat} (hn : n < A.length) (k v : Int) (hk : mK A n = k) : JInv (A.set n (1, k, v)) P := by
  intro x hx
  obtain ⟨j, h1, h2, h3, h4⟩ := h x hx
  refine ⟨j, h1, by simpa using h2, ?_, ?_⟩
  · by_cases e : n = j
    · subst e; simp [mO, List.getD, hn]
    · rw [mO, List.getD, List.getElem?_set_ne e]; exact h3
  · by_cases e : n = j
    · subst e; simp [mK, List.getD, hn]; omega
    · rw [mK, List.getD, List.getElem?_set_ne e]; exact h4
theorem okM_app {A : ML} (h : ∀ a ∈ A, okM a = true) {m : Int × Int × Int} (hm : okM m = true) : ∀ a ∈ A ++ [m], okM a = true := by
  intro a ha
  rcases List.mem_append.1 ha with h1 | h1
  · exact h a h1
  · simp at h1; subst h1; exact hm
theorem okM_set {A : ML} (h : ∀ a ∈ A, okM a = true) {m : Int × Int × Int} (hm : okM m = true) (n : Nat) : ∀ a ∈ A.set n m, okM a = true := by
  intro a ha
  rcases List.mem_or_eq_of_mem_set ha with h1 | h1
  · exact h a h1
  · subst h1; exact hm

theorem stepJ_put (A : ML) (P : PL) (k v : Int) : stepJ (A, P) (1, k, v) = (A ++ [(1, k, v)], putF P k A.length) := by simp [stepJ]
theorem stepJ_add {A : ML} {P : PL} {k : Int} (v : Int) {n : Nat} (h : (getP P k).2 = true) (hn : (getP P k).1 = n) : stepJ (A, P) (3, k, v) = (A.set n (1, k, clampI (mV A n + v)), P) := by simp [stepJ, h, hn]
theorem stepJ_else {A : ML} {P : PL} {o k v : Int} (h1 : o ≠ 1) (h : ¬ (o = 3 ∧ (getP P k).2 = true)) : stepJ (A, P) (o, k, v) = (A ++ [(o, k, v)], P) := by
  rw [stepJ, if_neg h1, if_neg h]
theorem foldJ_step (l : ML) (k : Nat) (h : k < l.length) (s : ML × PL) : (l.drop k).foldl stepJ s = (l.drop (k + 1)).foldl stepJ (stepJ s (mO l k, mK l k, mV l k)) := by
  rw [drop_consM l k h, List.foldl_cons]

/-- the sorted map lies apart from a row of changes: their blocks hold other types -/
theorem SrtM.pack {w : World} {B N : Nat} {F : Nat → Prop} {P : PL} (h : SrtM w B F P) (hF : ∀ g, F g → N ≤ g) {base n : Nat} {v : Value} {xs : List Value} (ho : w.ownsRow base 69 1 v n xs) :
    ∃ G : Nat → Prop, SrtM w B G P ∧ (∀ g, G g → N ≤ g) ∧ (∀ g, G g → v.ownBlock ≠ some g) := by
  obtain ⟨kv, vv, h1, h2, h3, h4, h5, h6, h7⟩ := h
  have key : ∀ (u : Value) (m : Nat) (ys : List Value), w.ownsRow 0 3 1 u m ys → ∀ g, u.ownBlock = some g → ∃ cur, w.heap[g]? = some (.cells cur 3 (0, 0)) := by
    intro u m ys hu g hg
    obtain ⟨_, ⟨rfl, _⟩ | ⟨g', cap, cur, rfl, _, hh, _⟩⟩ := hu
    · simp [Value.ownBlock] at hg
    · simp [Value.ownBlock] at hg; subst hg; exact ⟨cur, hh⟩
  have apart : ∀ g, v.ownBlock = some g → ∃ cur, w.heap[g]? = some (.cells cur 69 (0, 0)) := by
    intro g hg
    obtain ⟨_, ⟨rfl, _⟩ | ⟨g', cap, cur, rfl, _, hh, _⟩⟩ := ho
    · simp [Value.ownBlock] at hg
    · simp [Value.ownBlock] at hg; subst hg; exact ⟨cur, hh⟩
  refine ⟨fun g => g = B ∨ kv.ownBlock = some g ∨ vv.ownBlock = some g, ⟨kv, vv, h1, h2, h3, h4, Or.inl rfl, fun g hg => Or.inr (Or.inl hg), fun g hg => Or.inr (Or.inr hg)⟩, ?_, ?_⟩
  · rintro g (rfl | hg | hg)
    · exact hF _ h5
    · exact hF _ (h6 g hg)
    · exact hF _ (h7 g hg)
  · rintro g hG hg
    obtain ⟨c, hc⟩ := apart g hg
    rcases hG with rfl | hG | hG
    · rw [h1] at hc; simp at hc
    · obtain ⟨c', hc'⟩ := key _ _ _ h2 g hG
      rw [hc'] at hc; simp at hc
    · obtain ⟨c', hc'⟩ := key _ _ _ h3 g hG
      rw [hc'] at hc; simp at hc

end Go.Proofs.Ytlapcjbhhonagaa
