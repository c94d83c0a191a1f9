/-
  What a call changes, told by the set of blocks that it may write; rows of ints under insertion and deletion.
-/
import Derived.Test.YtmpiijphpnjlnaaMem
import Derived.Test.YtmpiijphpnjlnaaShelf
namespace Go.Proofs.Ytmpiijphpnjlnaa
open Go.RowKit

/-- w' IS w WITH NEW BLOCKS, AND WITH WRITES TO THE BLOCKS OF F ALONE. -/
structure Chg (F : Nat → Prop) (w w' : World) : Prop where
  os : w'.os = w.os
  tape : w'.tape = w.tape
  output : w'.output = w.output
  size : w.heap.size ≤ w'.heap.size
  block : ∀ k, k < w.heap.size → ¬ F k → w'.heap[k]? = w.heap[k]?

theorem Chg.refl (F : Nat → Prop) (w : World) : Chg F w w := ⟨rfl, rfl, rfl, Nat.le_refl _, fun _ _ _ => rfl⟩
theorem Chg.trans {F G : Nat → Prop} {a b c : World} (h : Chg F a b) (k : Chg G b c) (hG : ∀ g, g < a.heap.size → G g → F g) : Chg F a c :=
  ⟨k.os.trans h.os, k.tape.trans h.tape, k.output.trans h.output, Nat.le_trans h.size k.size,
    fun g hg hn => (k.block g (Nat.lt_of_lt_of_le hg h.size) (fun e => hn (hG g hg e))).trans (h.block g hg hn)⟩
theorem Chg.mono {F G : Nat → Prop} {a b : World} (h : Chg F a b) (hG : ∀ g, g < a.heap.size → F g → G g) : Chg G a b :=
  ⟨h.os, h.tape, h.output, h.size, fun g hg hn => h.block g hg (fun e => hn (hG g hg e))⟩
theorem Chg.of_below {F : Nat → Prop} {a b : World} (h : Below a.heap.size a b) : Chg F a b := ⟨h.os, h.tape, h.output, h.size, fun g hg _ => h.block g hg⟩
theorem Chg.below {F : Nat → Prop} {a b : World} {B : Nat} (h : Chg F a b) (hF : ∀ g, g < a.heap.size → F g → B ≤ g) (hB : B ≤ a.heap.size) : Below B a b :=
  ⟨h.os, h.tape, h.output, h.size, fun g hg => h.block g (Nat.lt_of_lt_of_le hg hB) (fun e => by have := hF g (Nat.lt_of_lt_of_le hg hB) e; omega)⟩
theorem Chg.alloc {F : Nat → Prop} {a b : World} (h : Chg F a b) (o : Obj) : Chg F a (b.alloc o) :=
  h.trans (Chg.of_below (F := F) ((Below.refl _ _).alloc (Nat.le_refl _) o)) (fun _ _ e => e)
theorem Chg.drew {F : Nat → Prop} {a b : World} (h : Chg F a b) : Chg F a b.drew := ⟨h.os, h.tape, h.output, h.size, h.block⟩
theorem Chg.drewN {F : Nat → Prop} {a b : World} (h : Chg F a b) (n : Nat) : Chg F a (b.drewN n) :=
  h.trans (Chg.of_below (F := F) (below_drewN (Below.refl _ _) n)) (fun _ _ e => e)
theorem size_setCells' (g : Nat) : ∀ (vs : List Value) (o : Nat) (w : World), (w.setCells g o vs).heap.size = w.heap.size
  | [], _, _ => rfl
  | v :: r, o, w => by rw [World.setCells, size_setCells' g r]; simp
theorem Chg.setCell {F : Nat → Prop} {a b : World} (h : Chg F a b) {p : Addr} (hp : p.block < a.heap.size → F p.block) (u : Value) : Chg F a (b.setCell p u) :=
  ⟨h.os, h.tape, h.output, by simpa using h.size, fun k hk hn => (heap_setCell_other _ _ _ _ (fun e => hn (by subst e; exact hp hk))).trans (h.block k hk hn)⟩
theorem Chg.setAt {F : Nat → Prop} {a b : World} (h : Chg F a b) (g j : Nat) (hg : F g) (u : Value) : Chg F a (b.setCell ⟨g, j, none⟩ u) := h.setCell (p := ⟨g, j, none⟩) (fun _ => hg) u
theorem Chg.setCells {F : Nat → Prop} {a : World} {g : Nat} (hp : g < a.heap.size → F g) : ∀ (vs : List Value) (o : Nat) (b : World), Chg F a b → Chg F a (b.setCells g o vs)
  | [], _, _, h => h
  | v :: r, o, _, h => Chg.setCells hp r (o + 1) _ (h.setCell (p := ⟨g, o, none⟩) hp v)

theorem owns_chg {F : Nat → Prop} {w w' : World} {base e size n : Nat} {v : Value} {xs : List Value} (h : w.ownsRow base e size v n xs) (hc : Chg F w w') (hF : ∀ g, v.ownBlock = some g → ¬ F g) : w'.ownsRow base e size v n xs := by
  obtain ⟨hl, h | ⟨g, cap, cur, rfl, hg, hh, hn, hcap, hsz, htake⟩⟩ := h
  · exact ⟨hl, .inl h⟩
  · exact ⟨hl, .inr ⟨g, cap, cur, rfl, hg, (hc.block g (Array.getElem?_eq_some_iff.1 hh).1 (hF g rfl)).trans hh, hn, hcap, hsz, htake⟩⟩
theorem row_chg {F : Nat → Prop} {w w' : World} {b : Nat} {o : Obj} (h : w.heap[b]? = some o) (hc : Chg F w w') (hF : ¬ F b) : w'.heap[b]? = some o :=
  (hc.block b (Array.getElem?_eq_some_iff.1 h).1 hF).trans h

/-- an array with a stretch written over -/
def spl (cur : Array Value) : Nat → List Value → Array Value
  | _, [] => cur
  | o, v :: r => spl (cur.setIfInBounds o v) (o + 1) r
theorem spl_size (cur : Array Value) : ∀ (vs : List Value) (o : Nat), (spl cur o vs).size = cur.size := by
  intro vs
  induction vs generalizing cur with
  | nil => intro o; rfl
  | cons v r ih => intro o; rw [spl, ih]; simp
theorem spl_toList : ∀ (vs : List Value) (cur : Array Value) (o : Nat), o + vs.length ≤ cur.size → (spl cur o vs).toList = cur.toList.take o ++ vs ++ cur.toList.drop (o + vs.length)
  | [], cur, o, h => by simp [spl]
  | v :: r, cur, o, h => by
    simp only [List.length_cons] at h
    rw [spl, spl_toList r _ (o + 1) (by simp; omega)]
    have hlt : o < cur.toList.length := by simp; omega
    have h1 : (cur.setIfInBounds o v).toList = cur.toList.set o v := Array.toList_setIfInBounds ..
    rw [h1, List.take_set, List.drop_set, if_pos (by omega), List.take_succ_eq_append_getElem hlt]
    rw [List.set_append_right _ _ (by simp; omega)]
    simp only [List.length_take, List.length_cons]
    rw [show o - min o cur.toList.length = 0 by omega, show o + 1 + r.length = o + (r.length + 1) by omega]
    simp
theorem heap_setCells_same (g : Nat) (t : TypeId) : ∀ (vs : List Value) (o : Nat) (w : World) (cur : Array Value), w.heap[g]? = some (.cells cur t (0, 0)) → (w.setCells g o vs).heap[g]? = some (.cells (spl cur o vs) t (0, 0))
  | [], _, _, _, h => h
  | v :: r, o, w, cur, h => by
    rw [World.setCells, spl]
    exact heap_setCells_same g t r (o + 1) _ _ (heap_setCell_same w g o cur t v h)

theorem ints_one (zs : List Int) : ∀ v ∈ zs.map (Value.int .i64), v.oneCell' = true := by
  intro v hv
  obtain ⟨z, _, rfl⟩ := List.mem_map.1 hv
  rfl

theorem cell_of_cells {w : World} {g j : Nat} {cur : Array Value} {t : TypeId} (h : w.heap[g]? = some (.cells cur t (0, 0))) : w.cell? ⟨g, j, none⟩ = cur[j]? := cell_of_row w g j cur t (0, 0) h
theorem frozen_of_cells {w : World} {g j : Nat} {cur : Array Value} {t : TypeId} (h : w.heap[g]? = some (.cells cur t (0, 0))) : w.frozen? ⟨g, j, none⟩ = false := frozen_of_row w g j cur t h

theorem owns_of {w : World} {g n cap : Nat} {t : TypeId} {cur : Array Value} {xs : List Value} (hh : w.heap[g]? = some (.cells cur t (0, 0))) (hn : n ≤ cap) (hcap : cap ≤ maxLen) (hs : cur.size = cap) (ht : cur.toList.take n = xs) (hl : xs.length = n) :
    w.ownsRow 0 t 1 (.slice (some ⟨g, 0, none⟩) n cap) n xs :=
  ⟨by omega, .inr ⟨g, cap, cur, rfl, Nat.zero_le _, hh, hn, hcap, by omega, by rw [Nat.mul_one]; exact ht⟩⟩

theorem take_app {α : Type} {A B : List α} {n : Nat} (h : A.length = n) : (A ++ B).take n = A := by subst h; simp
theorem shift_list {α : Type} {cur zs R : List α} {i n : Nat} (x : α) (hz : cur.take n = zs) (hl : zs.length = n) (hi : i < n) (hc : n + 1 ≤ cur.length) :
    ((cur.take (i + 1) ++ zs.drop i ++ R).take i ++ [x] ++ (cur.take (i + 1) ++ zs.drop i ++ R).drop (i + 1)).take (n + 1) = zs.take i ++ x :: zs.drop i := by
  have h1 : (cur.take (i + 1)).length = i + 1 := by simp; omega
  have e1 : (cur.take (i + 1) ++ zs.drop i ++ R).take i = zs.take i := by
    rw [List.append_assoc, List.take_append_of_le_length (by omega), List.take_take, ← hz, List.take_take, Nat.min_eq_left (by omega), Nat.min_eq_left (by omega)]
  have e2 : (cur.take (i + 1) ++ zs.drop i ++ R).drop (i + 1) = zs.drop i ++ R := by
    rw [List.append_assoc, List.drop_left' h1]
  rw [e1, e2, ← List.append_assoc, take_app (by simp; omega)]
  simp
theorem grow_list {α : Type} {A zs R S : List α} {i n : Nat} (x : α) (ha : A = zs.take i) (hl : zs.length = n) (hi : i < n) :
    ((A ++ [x] ++ S).take (i + 1) ++ zs.drop i ++ R).take (n + 1) = zs.take i ++ x :: zs.drop i := by
  have h1 : (A ++ [x]).length = i + 1 := by rw [ha]; simp; omega
  rw [take_app h1, take_app (by simp only [List.length_append, h1]; simp; omega), ha]
  simp

theorem zeroCells_size (m : Nat) : (Builtin.zeroCells (Value.int .i64 0).cells m).size = m := by
  rw [size_zeroCells]; simp [Value.cells]

set_option maxHeartbeats 1000000 in
theorem insert_own (v : Value) (zs : List Int) (i : Nat) (x : Int) (vb : Nat) (w : World) (ho : w.ownsRow 0 3 1 v zs.length (zs.map (Value.int .i64)))
    (hvb : w.heap[vb]? = some (.cells #[.int .i64 x] 3 (0, 0))) (hne : v.ownBlock ≠ some vb) (hi : i ≤ zs.length) (hbig : zs.length ≤ 1099511627776) :
    Calls Try.prog 127 #[v, .int .i64 i, .slice (some ⟨vb, 0, none⟩) 1 1] w fun e w' =>
      ∃ v', e = .returned v' ∧ w'.ownsRow 0 3 1 v' (zs.length + 1) ((zs.take i ++ x :: zs.drop i).map (Value.int .i64)) ∧ Chg (fun g => v.ownBlock = some g) w w' ∧ (v'.ownBlock = v.ownBlock ∨ v'.ownBlock = some w.heap.size) := by
  have hvs : ∀ (j : Nat) (u : Value), [Value.int .i64 x][j]? = some u → w.cell? ⟨vb, 0 + j, none⟩ = some u := by
    intro j u hj
    rw [Nat.zero_add, cell_of_cells hvb]
    simpa using hj
  have h1v : ∀ u ∈ [Value.int .i64 x], u.oneCell' = true := by intro u hu; simp at hu; subst hu; rfl
  obtain ⟨hl, h | ⟨g, cap, cur, rfl, hg, hh, hn, hcap, hsz, htake⟩⟩ := ho
  · obtain ⟨rfl, h0⟩ := h
    have hz : zs = [] := List.length_eq_zero_iff.1 h0
    subst hz
    have hi0 : i = 0 := by simpa using hi
    subst hi0
    refine (Try.slices_Insert_int_end_grow none 0 0 vb 0 1 1 [] [.int .i64 x] w (by decide) (Nat.le_refl _) (by decide) (by decide) rfl rfl (fun _ => rfl) (fun a ha => by cases ha) hvs h1v).mono ?_
    rintro e w' ⟨rfl, rfl⟩
    have hge := grownCap_ge w (0 + 1) 0 3
    exact ⟨_, rfl, owns_of (heap_alloc_new w.drew _) hge (grownCap_le_maxLen _ _ _ _ (by decide)) (by rw [Array.size_append, zeroCells_size]; show 1 + (grownCap w (0 + 1) 0 3 - (0 + 1)) = grownCap w (0 + 1) 0 3; omega) (by simp) (by simp), (Chg.refl _ _).drew.alloc _, Or.inr rfl⟩
  · simp only [Nat.mul_one] at hsz htake
    have hcs : ∀ (j : Nat) (u : Value), (zs.map (Value.int .i64))[j]? = some u → w.cell? ⟨g, 0 + j, none⟩ = some u := by
      intro j u hj
      rw [Nat.zero_add, cell_of_cells hh, ← Array.getElem?_toList]
      rw [← htake] at hj
      have hjl := (List.getElem?_eq_some_iff.1 hj).1
      rw [List.getElem?_take, if_pos (by simp at hjl; omega)] at hj
      exact hj
    have hgv : vb ≠ g := fun e => hne (by rw [e]; rfl)
    unfold maxLen at hcap
    by_cases hin : i = zs.length
    · subst hin
      by_cases hroom : zs.length + 1 ≤ cap
      · refine (Try.slices_Insert_int_end_room g 0 zs.length cap vb 0 1 1 [.int .i64 x] w (by decide) hroom (by omega) rfl (fun j hj => by rw [cell_of_cells hh]; simp; omega) (fun j hj => frozen_of_cells hh) hvs h1v).mono ?_
        rintro e w' ⟨rfl, rfl⟩
        refine ⟨_, rfl, owns_of (heap_setCells_same g 3 _ _ w cur hh) hroom (by unfold maxLen; omega) (by rw [spl_size]; omega) ?_ (by simp), Chg.setCells (F := fun k => (Value.slice (some ⟨g, 0, none⟩) zs.length cap).ownBlock = some k) (fun _ => rfl) _ _ _ (Chg.refl _ _), Or.inl rfl⟩
        rw [spl_toList _ _ _ (by simp; omega), Nat.zero_add, htake, take_app (by simp)]
        simp
      · refine (Try.slices_Insert_int_end_grow (some ⟨g, 0, none⟩) zs.length cap vb 0 1 1 (zs.map (Value.int .i64)) [.int .i64 x] w (by decide) hn (by omega) (by omega) (by simp) rfl (fun h => by cases h) (fun a ha j u hj => by
          cases ha; rw [Go.WideShapes.add_plain]; exact hcs j u hj) hvs h1v).mono ?_
        rintro e w' ⟨rfl, rfl⟩
        have hge := grownCap_ge w (zs.length + 1) cap 3
        exact ⟨_, rfl, owns_of (heap_alloc_new w.drew _) hge (grownCap_le_maxLen _ _ _ _ (by unfold maxLen; omega)) (by rw [Array.size_append, zeroCells_size]; simp; omega) (by rw [Array.toList_append, List.toList_toArray, take_app (by simp)]; simp) (by simp), (Chg.refl _ _).drew.alloc _, Or.inr rfl⟩
    · have hlt : i < zs.length := by omega
      by_cases hroom : zs.length + 1 ≤ cap
      · refine (Try.slices_Insert_int_shift g 0 zs.length cap i vb 0 1 1 (zs.map (Value.int .i64)) [.int .i64 x] w hlt (by decide) hroom (by omega) hgv (by simp) rfl hcs (fun j hj => by rw [cell_of_cells hh]; simp; omega) (fun j hj => frozen_of_cells hh) hvs (ints_one _) h1v
          3 3 1 cap (by simp [World.shape?, hvb]) (by simp [World.shape?, hh, hsz]) (by omega) (frozen_of_cells hvb) (frozen_of_cells hvb)).mono ?_
        rintro e w' ⟨rfl, rfl⟩
        have h1 := heap_setCells_same g 3 ((zs.map (Value.int .i64)).drop i) (0 + (i + 1)) w.drew cur hh
        have h2 := heap_setCells_same g 3 [.int .i64 x] (0 + i) _ _ h1
        refine ⟨_, rfl, owns_of h2 hroom (by unfold maxLen; omega) (by rw [spl_size, spl_size]; omega) ?_ (by simp; omega), Chg.setCells (F := fun k => (Value.slice (some ⟨g, 0, none⟩) zs.length cap).ownBlock = some k) (fun _ => rfl) _ _ _ (Chg.setCells (F := fun k => (Value.slice (some ⟨g, 0, none⟩) zs.length cap).ownBlock = some k) (fun _ => rfl) _ _ _ (Chg.refl _ _).drew), Or.inl rfl⟩
        rw [spl_toList _ _ _ (by rw [spl_size]; simp; omega), spl_toList _ _ _ (by simp; omega), Nat.zero_add, Nat.zero_add, List.length_singleton, shift_list _ htake (by simp) hlt (by simp; omega)]
        simp
      · refine (Try.slices_Insert_int_grow g 0 zs.length cap i vb 0 1 1 (zs.map (Value.int .i64)) [.int .i64 x] w hlt (by decide) hn (by omega) (by omega) (by simp) rfl hcs hvs (ints_one _) h1v).mono ?_
        rintro e w' ⟨rfl, rfl⟩
        have hge := grownCap_ge w (zs.length + 1) cap 3
        have hsize : (((zs.map (Value.int .i64)).take i).toArray ++ Builtin.zeroCells (Value.int .i64 0).cells (zs.length + 1 - i) ++ Builtin.zeroCells (Value.int .i64 0).cells (grownCap w (zs.length + 1) cap 3 - (zs.length + 1))).size = grownCap w (zs.length + 1) cap 3 := by
          rw [Array.size_append, Array.size_append, zeroCells_size, zeroCells_size]; simp; omega
        have hlist : (((zs.map (Value.int .i64)).take i).toArray ++ Builtin.zeroCells (Value.int .i64 0).cells (zs.length + 1 - i) ++ Builtin.zeroCells (Value.int .i64 0).cells (grownCap w (zs.length + 1) cap 3 - (zs.length + 1))).toList.take i = (zs.map (Value.int .i64)).take i := by
          rw [Array.toList_append, Array.toList_append, List.toList_toArray, List.append_assoc, take_app (by simp; omega)]
        generalize ((zs.map (Value.int .i64)).take i).toArray ++ Builtin.zeroCells (Value.int .i64 0).cells (zs.length + 1 - i) ++ Builtin.zeroCells (Value.int .i64 0).cells (grownCap w (zs.length + 1) cap 3 - (zs.length + 1)) = A at hsize hlist ⊢
        have h0 := heap_alloc_new w (.cells A 3)
        have h1 : ((w.alloc (.cells A 3)).drew.setCells w.heap.size i [.int .i64 x]).drew.heap[w.heap.size]? = _ := heap_setCells_same w.heap.size 3 [.int .i64 x] i (w.alloc (.cells A 3)).drew _ h0
        have h2 := heap_setCells_same w.heap.size 3 ((zs.map (Value.int .i64)).drop i) (i + 1) _ _ h1
        have hc : Chg (fun k => (Value.slice (some ⟨g, 0, none⟩) zs.length cap).ownBlock = some k) w (((w.alloc (.cells A 3)).drew.setCells w.heap.size i [.int .i64 x]).drew.setCells w.heap.size (i + 1) ((zs.map (Value.int .i64)).drop i)) :=
          Chg.setCells (fun h => absurd h (Nat.lt_irrefl _)) _ _ _ (Chg.setCells (fun h => absurd h (Nat.lt_irrefl _)) _ _ _ ((Chg.refl _ _).alloc _).drew).drew
        refine ⟨_, rfl, owns_of h2 hge (grownCap_le_maxLen _ _ _ _ (by unfold maxLen; omega)) (by rw [spl_size, spl_size, hsize]) ?_ (by simp; omega), hc, Or.inr rfl⟩
        rw [spl_toList _ _ _ (by rw [spl_size, hsize]; simp; omega), spl_toList _ _ _ (by rw [hsize]; simp; omega)]
        rw [grow_list (n := zs.length) _ hlist (by simp) hlt]
        simp

end Go.Proofs.Ytmpiijphpnjlnaa
