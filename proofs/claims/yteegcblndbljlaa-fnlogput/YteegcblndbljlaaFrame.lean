/-
  What a call changes, told by the set of blocks that it may write; rows of ints under insertion and deletion.
-/
import Derived.Test.YteegcblndbljlaaMem
import Derived.Lib.RowBridge
namespace Go.Proofs.Yteegcblndbljlaa
open Go.RowKit

/-- w' IS w WITH NEW BLOCKS, AND WITH WRITES TO THE BLOCKS OF F ALONE. -/
structure Chg (F : Nat → Prop) (w w' : World) : Prop where
  os : w'.os = w.os
  tape : w'.tape = w.tape
  output : w'.output = w.output
  size : w.heap.size ≤ w'.heap.size
  block : ∀ k, k < w.heap.size → ¬ F k → w'.heap[k]? = w.heap[k]?

theorem Chg.refl (F : Nat → Prop) (w : World) : Chg F w w := ⟨rfl, rfl, rfl, Nat.le_refl _, fun _ _ _ => rfl⟩
theorem Chg.trans {F G : Nat → Prop} {a b c : World} (h : Chg F a b) (k : Chg G b c) (hG : ∀ g, g < a.heap.size → G g → F g) : Chg F a c :=
  ⟨k.os.trans h.os, k.tape.trans h.tape, k.output.trans h.output, Nat.le_trans h.size k.size,
    fun g hg hn => (k.block g (Nat.lt_of_lt_of_le hg h.size) (fun e => hn (hG g hg e))).trans (h.block g hg hn)⟩
theorem Chg.mono {F G : Nat → Prop} {a b : World} (h : Chg F a b) (hG : ∀ g, g < a.heap.size → F g → G g) : Chg G a b :=
  ⟨h.os, h.tape, h.output, h.size, fun g hg hn => h.block g hg (fun e => hn (hG g hg e))⟩
theorem Chg.of_below {F : Nat → Prop} {a b : World} (h : Below a.heap.size a b) : Chg F a b := ⟨h.os, h.tape, h.output, h.size, fun g hg _ => h.block g hg⟩
theorem Chg.below {F : Nat → Prop} {a b : World} {B : Nat} (h : Chg F a b) (hF : ∀ g, g < a.heap.size → F g → B ≤ g) (hB : B ≤ a.heap.size) : Below B a b :=
  ⟨h.os, h.tape, h.output, h.size, fun g hg => h.block g (Nat.lt_of_lt_of_le hg hB) (fun e => by have := hF g (Nat.lt_of_lt_of_le hg hB) e; omega)⟩
theorem Chg.alloc {F : Nat → Prop} {a b : World} (h : Chg F a b) (o : Obj) : Chg F a (b.alloc o) :=
  h.trans (Chg.of_below (F := F) ((Below.refl _ _).alloc (Nat.le_refl _) o)) (fun _ _ e => e)
theorem Chg.drew {F : Nat → Prop} {a b : World} (h : Chg F a b) : Chg F a b.drew := ⟨h.os, h.tape, h.output, h.size, h.block⟩
theorem Chg.drewN {F : Nat → Prop} {a b : World} (h : Chg F a b) (n : Nat) : Chg F a (b.drewN n) :=
  h.trans (Chg.of_below (F := F) (below_drewN (Below.refl _ _) n)) (fun _ _ e => e)
theorem size_setCells' (g : Nat) : ∀ (vs : List Value) (o : Nat) (w : World), (w.setCells g o vs).heap.size = w.heap.size
  | [], _, _ => rfl
  | v :: r, o, w => by rw [World.setCells, size_setCells' g r]; simp
theorem Chg.setCell {F : Nat → Prop} {a b : World} (h : Chg F a b) {p : Addr} (hp : p.block < a.heap.size → F p.block) (u : Value) : Chg F a (b.setCell p u) :=
  ⟨h.os, h.tape, h.output, by simpa using h.size, fun k hk hn => (heap_setCell_other _ _ _ _ (fun e => hn (by subst e; exact hp hk))).trans (h.block k hk hn)⟩
theorem Chg.setAt {F : Nat → Prop} {a b : World} (h : Chg F a b) (g j : Nat) (hg : F g) (u : Value) : Chg F a (b.setCell ⟨g, j, none⟩ u) := h.setCell (p := ⟨g, j, none⟩) (fun _ => hg) u
theorem Chg.setCells {F : Nat → Prop} {a : World} {g : Nat} (hp : g < a.heap.size → F g) : ∀ (vs : List Value) (o : Nat) (b : World), Chg F a b → Chg F a (b.setCells g o vs)
  | [], _, _, h => h
  | v :: r, o, _, h => Chg.setCells hp r (o + 1) _ (h.setCell (p := ⟨g, o, none⟩) hp v)

theorem owns_chg {F : Nat → Prop} {w w' : World} {base e size n : Nat} {v : Value} {xs : List Value} (h : w.ownsRow base e size v n xs) (hc : Chg F w w') (hF : ∀ g, v.ownBlock = some g → ¬ F g) : w'.ownsRow base e size v n xs := by
  obtain ⟨hl, h | ⟨g, cap, cur, rfl, hg, hh, hn, hcap, hsz, htake⟩⟩ := h
  · exact ⟨hl, .inl h⟩
  · exact ⟨hl, .inr ⟨g, cap, cur, rfl, hg, (hc.block g (Array.getElem?_eq_some_iff.1 hh).1 (hF g rfl)).trans hh, hn, hcap, hsz, htake⟩⟩
theorem row_chg {F : Nat → Prop} {w w' : World} {b : Nat} {o : Obj} (h : w.heap[b]? = some o) (hc : Chg F w w') (hF : ¬ F b) : w'.heap[b]? = some o :=
  (hc.block b (Array.getElem?_eq_some_iff.1 h).1 hF).trans h

/-- an array with a stretch written over -/
def spl (cur : Array Value) : Nat → List Value → Array Value
  | _, [] => cur
  | o, v :: r => spl (cur.setIfInBounds o v) (o + 1) r
theorem spl_size (cur : Array Value) : ∀ (vs : List Value) (o : Nat), (spl cur o vs).size = cur.size := by
  intro vs
  induction vs generalizing cur with
  | nil => intro o; rfl
  | cons v r ih => intro o; rw [spl, ih]; simp
theorem spl_toList : ∀ (vs : List Value) (cur : Array Value) (o : Nat), o + vs.length ≤ cur.size → (spl cur o vs).toList = cur.toList.take o ++ vs ++ cur.toList.drop (o + vs.length)
  | [], cur, o, h => by simp [spl]
  | v :: r, cur, o, h => by
    simp only [List.length_cons] at h
    rw [spl, spl_toList r _ (o + 1) (by simp; omega)]
    have hlt : o < cur.toList.length := by simp; omega
    have h1 : (cur.setIfInBounds o v).toList = cur.toList.set o v := Array.toList_setIfInBounds ..
    rw [h1, List.take_set, List.drop_set, if_pos (by omega), List.take_succ_eq_append_getElem hlt]
    rw [List.set_append_right _ _ (by simp; omega)]
    simp only [List.length_take, List.length_cons]
    rw [show o - min o cur.toList.length = 0 by omega, show o + 1 + r.length = o + (r.length + 1) by omega]
    simp
theorem heap_setCells_same (g : Nat) (t : TypeId) : ∀ (vs : List Value) (o : Nat) (w : World) (cur : Array Value), w.heap[g]? = some (.cells cur t (0, 0)) → (w.setCells g o vs).heap[g]? = some (.cells (spl cur o vs) t (0, 0))
  | [], _, _, _, h => h
  | v :: r, o, w, cur, h => by
    rw [World.setCells, spl]
    exact heap_setCells_same g t r (o + 1) _ _ (heap_setCell_same w g o cur t v h)

theorem ints_one (zs : List Int) : ∀ v ∈ zs.map (Value.int .i64), v.oneCell' = true := by
  intro v hv
  obtain ⟨z, _, rfl⟩ := List.mem_map.1 hv
  rfl

theorem cell_of_cells {w : World} {g j : Nat} {cur : Array Value} {t : TypeId} (h : w.heap[g]? = some (.cells cur t (0, 0))) : w.cell? ⟨g, j, none⟩ = cur[j]? := cell_of_row w g j cur t (0, 0) h
theorem frozen_of_cells {w : World} {g j : Nat} {cur : Array Value} {t : TypeId} (h : w.heap[g]? = some (.cells cur t (0, 0))) : w.frozen? ⟨g, j, none⟩ = false := frozen_of_row w g j cur t h

theorem owns_of {w : World} {g n cap : Nat} {t : TypeId} {cur : Array Value} {xs : List Value} (hh : w.heap[g]? = some (.cells cur t (0, 0))) (hn : n ≤ cap) (hcap : cap ≤ maxLen) (hs : cur.size = cap) (ht : cur.toList.take n = xs) (hl : xs.length = n) :
    w.ownsRow 0 t 1 (.slice (some ⟨g, 0, none⟩) n cap) n xs :=
  ⟨by omega, .inr ⟨g, cap, cur, rfl, Nat.zero_le _, hh, hn, hcap, by omega, by rw [Nat.mul_one]; exact ht⟩⟩

theorem take_app {α : Type} {A B : List α} {n : Nat} (h : A.length = n) : (A ++ B).take n = A := by subst h; simp

end Go.Proofs.Yteegcblndbljlaa
