/-
  markLog, heldLog; what marks leave as it is.
-/
import Derived.Test.YteegcblndbljlaaEntsSl
import Derived.Test.YteegcblndbljlaaEntsM
namespace Go.Proofs.Yteegcblndbljlaa
open Go.RowKit

theorem owns_bx {w : World} {base e size n : Nat} {v : Value} {xs : List Value} (h : w.ownsRow base e size v n xs) {B : Nat} {c : Array Value} {t : Nat} (hB : w.heap[B]? = some (.cells c t (0, 0))) (ht : t ≠ e) : ∀ g, v.ownBlock = some g → ¬ g = B := by
  rintro g hg rfl
  obtain ⟨_, ⟨e1, _⟩ | ⟨g2, cap2, cur, e1, _, e2, _⟩⟩ := h
  · rw [e1] at hg; simp [Value.ownBlock] at hg
  · rw [e1] at hg
    simp [Value.ownBlock] at hg
    subst hg
    rw [hB] at e2
    simp at e2
    exact ht e2.2
theorem MBox.mark {t : TypeId} {u u' : World} {B : Nat} {A : Array Value} (h : MBox t u B A) {base e size n : Nat} {v : Value} {xs : List Value} (o : u.ownsRow base e size v n xs) (hc : Chg (fun g => v.ownBlock = some g) u u') (ht : t ≠ e) : MBox t u' B A :=
  row_chg h hc (fun hb => owns_bx o h ht B hb rfl)
theorem OwnE.mark {u u' : World} {base e size n : Nat} {v0 v : Value} {xs : List Value} {z : Nat} (h : OwnE u base e size v0 n xs) (hc : Chg (fun g => v.ownBlock = some g) u u') (lt : ∀ g, wrB v0 g → g < z) (ge : ∀ g, v.ownBlock = some g → z ≤ g) : OwnE u' base e size v0 n xs :=
  h.chg hc (fun g hg hq => by have := lt g hg; have := ge g hq; omega)
theorem owns_mark {u u' : World} {base e size n : Nat} {vg v : Value} {xs : List Value} {z : Nat} (h : u.ownsRow base e size vg n xs) (hc : Chg (fun g => v.ownBlock = some g) u u') (lt : ∀ g, v.ownBlock = some g → g < z) (hz : z ≤ base) : u'.ownsRow base e size vg n xs :=
  owns_chg h hc (fun g hg hq => by have := (h.lt g hg).1; have := lt g hq; omega)
theorem below_mark {w u u' : World} {base e size n : Nat} {v : Value} {xs : List Value} (hb : Below w.heap.size w u) (o : u.ownsRow base e size v n xs) (hc : Chg (fun g => v.ownBlock = some g) u u') (hz : w.heap.size ≤ base) : Below w.heap.size w u' :=
  hb.trans (hc.below (fun g _ hg => by have := (o.lt g hg).1; omega) hb.size)

set_option maxHeartbeats 1000000 in
theorem markLog_any (b t : Int) (v : Value) (l : EL) (k : Int) (w : World) (h : w.ownsRow 0 39 6 v l.length (flatE l)) (hn : l.length ≤ 4194304) (hk0 : 0 ≤ k) (hk1 : k ≤ 41943040) :
    Calls Try.prog 38 #[lgV b t v, .int .i64 k] w fun e w' => e = .returned (.int .i64 (k + 6 * l.length)) ∧ w'.ownsRow 0 39 6 v l.length (flatE (marksE k l.length)) ∧ Chg (fun g => v.ownBlock = some g) w w' := by
  have C : Hid (∀ u, Below w.heap.size w u → Calls Try.prog 39 #[v, .int .i64 k] u fun e w' => e = .returned (.int .i64 (k + 6 * l.length)) ∧ w'.ownsRow 0 39 6 v l.length (flatE (marksE k l.length)) ∧ Chg (fun g => v.ownBlock = some g) u w') := fun u hu => markEntryS_any v l k u (owns_below h hu) hn hk0 hk1
  have B1 : Hid (Below w.heap.size w (w.alloc (.cells #[.int .i64 b, .int .i64 t, v] 26))) := bel_nw _ _
  clear h hk0 hk1
  generalize hll : l.length = ll at *
  clear hll
  generalize hkk : (k + 6 * (ll : Int)) = kk at *
  clear hkk
  go_enter Try.func38, Try.ntmps38
  go_wp2_with fail
  refine (C.out _ B1.out).mono ?_
  rintro e w1 ⟨rfl, o1, c1⟩
  have FIN : Hid _ := And.intro o1 ((Chg.of_below B1.out).trans c1 (fun g _ hg => hg))
  clear o1 c1
  go_wp2
  go_ret
  exact ⟨rfl, FIN.out⟩

set_option maxHeartbeats 1000000 in
theorem heldLog_any (b t : Int) (v : Value) (n : Nat) (k : Int) (w : World) (h : Row w v n (flatE (marksE k n))) (hn : n ≤ 4194304) (hk0 : 0 ≤ k) (hk1 : k ≤ 41943040) :
    Calls Try.prog 43 #[lgV b t v, .int .i64 k] w fun e w' => e = .returned (.int .i64 (k + 6 * n)) ∧ Below w.heap.size w w' := by
  have C : Hid (∀ u, Below w.heap.size w u → Calls Try.prog 40 #[v, .int .i64 k] u fun e w' => e = .returned (.int .i64 (k + 6 * n)) ∧ w' = u) := fun u hu => heldEntryS_any v n k u (h.below hu) hn hk0 hk1
  have B1 : Hid (Below w.heap.size w (w.alloc (.cells #[.int .i64 b, .int .i64 t, v] 26))) := bel_nw _ _
  have hk2 : ¬ (k + 6 * (n : Int) < 0) := by omega
  clear h hk0 hk1
  generalize hkk : (k + 6 * (n : Int)) = kk at *
  clear hkk
  go_enter Try.func43, Try.ntmps43
  go_wp2_with fail
  refine (C.out _ B1.out).mono ?_
  rintro e w1 ⟨rfl, rfl⟩
  go_wp2
  go_ret
  exact ⟨rfl, B1.out⟩

end Go.Proofs.Yteegcblndbljlaa
