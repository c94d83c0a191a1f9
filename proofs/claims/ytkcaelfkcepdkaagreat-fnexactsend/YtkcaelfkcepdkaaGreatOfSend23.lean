/-
  Copies of machines own their memory.
  The laws' own copy of a tree lies in memory of its own, each row apart from all others.
-/
import Derived.Test.YtkcaelfkcepdkaaGreatOfSend22
import Derived.Test.YtkcaelfkcepdkaaGreatOfSend4
import Derived.Test.YtkcaelfkcepdkaaGreatOfSend10
import Derived.Test.YtkcaelfkcepdkaaGreatOfSend15
import Derived.Test.YtkcaelfkcepdkaaGreatOfSend17
namespace Go.Proofs.YtkcaelfkcepdkaaGreat
set_option maxRecDepth 100000
set_option maxHeartbeats 8000000
section
open Go.RowKit

theorem hid9c {p : Prop} (h : p) : Hid p := h
def MacD (n : Nat) (w : World) (F : Nat → Prop) (m : MacV) (T : Tr) (l : DL) : Prop := TreeD n w F m.x T ∧ OwnE w 0 141 4 m.v l.length (flatD l) ∧ ∀ g, wrB m.v g → F g
theorem MacD.below {n : Nat} {w w' : World} {F : Nat → Prop} {m : MacV} {T : Tr} {l : DL} (h : MacD n w F m T l) (hb : Below w.heap.size w w') : MacD n w' F m T l := ⟨h.1.below hb, h.2.1.below hb, h.2.2⟩
theorem MacD.mono {n : Nat} {w : World} {F G : Nat → Prop} {m : MacV} {T : Tr} {l : DL} (h : MacD n w F m T l) (hF : ∀ g, F g → G g) : MacD n w G m T l := ⟨h.1.mono hF, h.2.1, fun g hg => hF g (h.2.2 g hg)⟩
theorem MacD.chg {n : Nat} {w w' : World} {F P : Nat → Prop} {m : MacV} {T : Tr} {l : DL} (h : MacD n w F m T l) (hc : Chg P w w') (hd : ∀ g, F g → ¬ P g) : MacD n w' F m T l := ⟨h.1.chg hc hd, h.2.1.chg hc (fun g hg => hd g (h.2.2 g hg)), h.2.2⟩
theorem OwnE.sl {w : World} {base e size k : Nat} {v : Value} {xs : List Value} (h : OwnE w base e size v k xs) : ∃ x : Option Addr × Nat × Nat, v = .slice x.1 x.2.1 x.2.2 := by
 obtain ⟨a, cap, e⟩ := h.slice
 exact ⟨(a, k, cap), e⟩
theorem TreeD.sl {n : Nat} {w : World} {F : Nat → Prop} {x : TV} {T : Tr} (h : TreeD n w F x T) : ∃ (b : Bool) (x1 x2 x3 x4 : Option Addr × Nat × Nat), x = ⟨b, .slice x1.1 x1.2.1 x1.2.2, .slice x2.1 x2.2.1 x2.2.2, .slice x3.1 x3.2.1 x3.2.2, .slice x4.1 x4.2.1 x4.2.2⟩ := by
 obtain ⟨a1, a2, a3, a4, b1, b2, b3, b4, hy⟩ := h.treeF.treeAt.shape
 exact ⟨_, (a1, _, b1), (a2, _, b2), (a3, _, b3), (a4, _, b4), hy⟩
theorem flatD_one (l : DL) : ∀ y ∈ flatD l, y.oneCell' = true := by
 intro y hy
 simp only [flatD, List.mem_flatMap] at hy
 obtain ⟨p, _, hp⟩ := hy
 simp at hp
 rcases hp with rfl | rfl | rfl | rfl <;> rfl
theorem setSix {W : World} {R : Nat} {t : TypeId} {x0 x1 x2 x3 x4 x5 : Value} (a b c d e f : Value) (h : W.heap[R]? = some (.cells #[x0, x1, x2, x3, x4, x5] t (0, 0))) : ((((((W.setCell ⟨R, 0, none⟩ a).setCell ⟨R, 1, none⟩ b).setCell ⟨R, 2, none⟩ c).setCell ⟨R, 3, none⟩ d).setCell ⟨R, 4, none⟩ e).setCell ⟨R, 5, none⟩ f).heap[R]? = some (.cells #[a, b, c, d, e, f] t (0, 0)) ∧ Chg (fun g => g = R) W ((((((W.setCell ⟨R, 0, none⟩ a).setCell ⟨R, 1, none⟩ b).setCell ⟨R, 2, none⟩ c).setCell ⟨R, 3, none⟩ d).setCell ⟨R, 4, none⟩ e).setCell ⟨R, 5, none⟩ f) := by
 have h0 := heap_setCell_same W R 0 _ _ a h
 have h1 := heap_setCell_same _ R 1 _ _ b h0
 have h2 := heap_setCell_same _ R 2 _ _ c h1
 have h3 := heap_setCell_same _ R 3 _ _ d h2
 have h4 := heap_setCell_same _ R 4 _ _ e h3
 have h5 := heap_setCell_same _ R 5 _ _ f h4
 exact ⟨by simpa using h5, ((((((Chg.refl (fun g => g = R) W).setAt R 0 rfl a).setAt R 1 rfl b).setAt R 2 rfl c).setAt R 3 rfl d).setAt R 4 rfl e).setAt R 5 rfl f⟩

theorem run_cpT (args : Array Value) (w : World) : (callFunc 126 args).run Tryz.prog w = .ok (.enter 126 args) w := by go_simp
theorem run_clD (args : Array Value) (w : World) : (callFunc 81 args).run Tryz.prog w = .ok (.enter 81 args) w := by go_simp

theorem copyOfMachine_any (d : Bool) (n : Nat) (m : MacV) (T : Tr) (l : DL) (F : Nat → Prop) (w : World) (ht : Src d n w F m.x T) (hr : Row w m.v l.length (flatD l)) (hs : sizeT n T ≤ 1048576) (hd : d = false → sizeT n T ≤ 100000) (hl : l.length ≤ 1048576) :
  Calls Tryz.prog 109 #[m.val] w fun e w' => ∃ m' : MacV, e = .returned m'.val ∧ MacD n w' (fun g => w.heap.size ≤ g) m' T l ∧ Below w.heap.size w w' := by
 have C1 : Hid (∀ u, Below w.heap.size w u → Calls Tryz.prog 126 #[m.x.val] u fun e w' => ∃ y : TV, e = .returned y.val ∧ TreeD n w' (fun g => u.heap.size ≤ g) y T ∧ Below u.heap.size u w') := fun u hu => copyOfTree_any d n m.x T F u (ht.below hu) hs hd
 have C2 : Hid (∀ u, Below w.heap.size w u → Calls Tryz.prog 81 #[m.v] u fun e w' => ∃ v', e = .returned v' ∧ OwnE w' u.heap.size 141 4 v' l.length (flatD l) ∧ Below u.heap.size u w') := fun u hu => cloneD_any m.v l.length (flatD l) u (hr.below hu) (flatD_length l) (flatD_one l) (by omega)
 clear ht hr hs hd hl
 obtain ⟨⟨lf, p, c, k, b⟩, v⟩ := m
 have N1 := hid9c ((MBox.start 71 w #[.bool lf, p, c, k, b, v]).step (bel_nw _ (.cells #[.bool false, .slice none 0 0, .slice none 0 0, .slice none 0 0, .slice none 0 0, .slice none 0 0] 71)))
 have N2 : Hid (MBox 71 ((w.alloc (.cells #[.bool lf, p, c, k, b, v] 71)).alloc (.cells #[.bool false, .slice none 0 0, .slice none 0 0, .slice none 0 0, .slice none 0 0, .slice none 0 0] 71)) (w.heap.size + 1) #[.bool false, .slice none 0 0, .slice none 0 0, .slice none 0 0, .slice none 0 0, .slice none 0 0]) := by
  have := MBox.start 71 (w.alloc (.cells #[.bool lf, p, c, k, b, v] 71)) #[.bool false, .slice none 0 0, .slice none 0 0, .slice none 0 0, .slice none 0 0, .slice none 0 0]
  rw [World.size_alloc] at this
  exact this
 have B2 : Hid (Below w.heap.size w ((w.alloc (.cells #[.bool lf, p, c, k, b, v] 71)).alloc (.cells #[.bool false, .slice none 0 0, .slice none 0 0, .slice none 0 0, .slice none 0 0, .slice none 0 0] 71))) := Below.and (bel_nw _ _) (bel_nw _ _)
 have ZZ : Hid (((w.alloc (.cells #[.bool lf, p, c, k, b, v] 71)).alloc (.cells #[.bool false, .slice none 0 0, .slice none 0 0, .slice none 0 0, .slice none 0 0, .slice none 0 0] 71)).heap.size = w.heap.size + 2) := by show _ = _; simp
 show Calls Tryz.prog 109 #[.agg #[.bool lf, p, c, k, b, v]] w _
 go_enter Tryz.func109, Tryz.ntmps109
 go_wp2_with fail
 generalize ((w.alloc (.cells #[.bool lf, p, c, k, b, v] 71)).alloc (.cells #[.bool false, .slice none 0 0, .slice none 0 0, .slice none 0 0, .slice none 0 0, .slice none 0 0] 71)) = W at *
 have KEEP : Hid (∀ u, Below W.heap.size W u → (fun u => (∀ j, u.cell? ⟨w.heap.size, j, none⟩ = (#[.bool lf, p, c, k, b, v] : Array Value)[j]?)) u) := fun u hu => (N1.out.step hu).cells
 have SL : Hid (Below W.heap.size W W.drew) := (Below.refl _ _).drew
 refine wp_region_held_drew (S := (fun u => (∀ j, u.cell? ⟨w.heap.size, j, none⟩ = (#[.bool lf, p, c, k, b, v] : Array Value)[j]?))) (by kernel_rfl) (KEEP.out _ SL.out) (fun hH => ?_)
 refine wpAnyH_take (i := 0) (oi := ⟨_, _, _, _, _, _⟩) (v := ?_) rfl (by kernel_rfl) (by kernel_rfl) (by kernel_rfl) (fun _ _ _ h => h) (Or.inl ⟨by rfl, ?_⟩) (by assumption) ?_
 rotate_left
 ·((intro w hSw; (try dsimp only at hSw); go_simp); (try with_reducible rfl))
 try simp only [Act.put, List.setIfInBounds_toArray, List.set_cons_zero, List.set_cons_succ]
 refine wpAnyH_take (i := 1) (oi := ⟨_, _, _, _, _, _⟩) (v := ?_) rfl (by kernel_rfl) (by kernel_rfl) (by kernel_rfl) (fun _ _ _ h => h) (Or.inl ⟨by rfl, ?_⟩) (by assumption) ?_
 rotate_left
 ·((intro w hSw; (try dsimp only at hSw); go_simp); (try with_reducible rfl))
 try simp only [Act.put, List.setIfInBounds_toArray, List.set_cons_zero, List.set_cons_succ]
 refine wpAnyH_take (i := 3) (oi := ⟨_, _, _, _, _, _⟩) (v := ?_) rfl (by kernel_rfl) (by kernel_rfl) (by kernel_rfl) (fun _ _ _ h => h) (Or.inl ⟨by rfl, ?_⟩) (by assumption) ?_
 rotate_left
 ·((intro w hSw; (try dsimp only at hSw); go_simp); (try with_reducible rfl))
 try simp only [Act.put, List.setIfInBounds_toArray, List.set_cons_zero, List.set_cons_succ]
 refine wpAnyH_take (i := 4) (oi := ⟨_, _, _, _, _, _⟩) (v := ?_) rfl (by kernel_rfl) (by kernel_rfl) (by kernel_rfl) (fun _ _ _ h => h) (Or.inl ⟨by rfl, ?_⟩) (by assumption) ?_
 rotate_left
 ·((intro w hSw; (try dsimp only at hSw); go_simp); (try with_reducible rfl))
 try simp only [Act.put, List.setIfInBounds_toArray, List.set_cons_zero, List.set_cons_succ]
 refine wpAnyH_ready (rs := [2]) (by kernel_rfl) (by simp) ?_
 refine AllReadyH.cons (o := ⟨_, _, _, _, _, _⟩) rfl (fun K hK => ?_) AllReadyH.nil
 refine (if_pos (show Region.wanted _ _ = true by kernel_rfl)).mpr ?_
 refine call_by 126 [.tmp 4] #[69] rfl run_cpT _ rfl (C1.out _ (Below.and B2.out SL.out)) ?_
 rintro e u1 ⟨y, rfl, t1, b1⟩
 have T1 := hid9c (t1.mono (G := fun g => w.heap.size + 2 ≤ g) (fun g hg => by have h1 := SL.out.size; have h2 := ZZ.out; omega))
 obtain ⟨l1, x1, x2, x3, x4, hy⟩ := t1.sl
 subst hy
 replace SL := hid9c (Below.and SL.out b1)
 clear t1 b1
 refine ⟨_, rfl, ?_⟩
 refine hK.out _ _ (KEEP.out _ SL.out) (fun hH2 => ?_)
 clear hK K hH
 have hH := hH2
 clear hH2
 try simp only [Act.put, List.setIfInBounds_toArray, List.set_cons_zero, List.set_cons_succ]
 refine wpAnyH_ready (rs := [5]) (by kernel_rfl) (by simp) ?_
 refine AllReadyH.cons (o := ⟨_, _, _, _, _, _⟩) rfl (fun K hK => ?_) AllReadyH.nil
 refine (if_pos (show Region.wanted _ _ = true by kernel_rfl)).mpr ?_
 refine call_by 81 [.tmp 7] #[34] rfl run_clD _ rfl (C2.out _ (Below.and B2.out SL.out)) ?_
 rintro e u2 ⟨v5, rfl, o5, b5⟩
 have O5 := hid9c (o5.mono (base' := w.heap.size + 2) (by have h1 := SL.out.size; have h2 := ZZ.out; omega))
 obtain ⟨x5, hx⟩ := o5.sl
 subst hx
 replace SL := hid9c (Below.and SL.out b5)
 replace T1 := hid9c (T1.out.below b5)
 clear o5 b5
 refine ⟨_, rfl, ?_⟩
 refine hK.out _ _ (KEEP.out _ SL.out) (fun hH2 => ?_)
 clear hK K hH
 have hH := hH2
 clear hH2
 try simp only [Act.put, List.setIfInBounds_toArray, List.set_cons_zero, List.set_cons_succ]
 refine wpAnyH_take (i := 6) (oi := ⟨_, _, _, _, _, _⟩) (v := ?_) rfl (by kernel_rfl) (by kernel_rfl) (by kernel_rfl) (fun _ _ _ h => h) (Or.inl ⟨by rfl, ?_⟩) (by assumption) ?_
 rotate_left
 ·((intro w hSw; (try dsimp only at hSw); go_simp); (try with_reducible rfl))
 try simp only [Act.put, List.setIfInBounds_toArray, List.set_cons_zero, List.set_cons_succ]
 have M2 := N2.out.step SL.out
 have m0 : ∀ j, u2.cell? ⟨w.heap.size + 1, j, none⟩ = (#[.bool false, .slice none 0 0, .slice none 0 0, .slice none 0 0, .slice none 0 0, .slice none 0 0] : Array Value)[j]? := M2.cells
 have f0 : ∀ j, u2.frozen? ⟨w.heap.size + 1, j, none⟩ = false := fun j => frozen_of_cells M2
 have X := setSix (.bool l1) (.slice x1.1 x1.2.1 x1.2.2) (.slice x2.1 x2.2.1 x2.2.2) (.slice x3.1 x3.2.1 x3.2.2) (.slice x4.1 x4.2.1 x4.2.2) (.slice x5.1 x5.2.1 x5.2.2) M2
 have MD : MacD n u2 (fun g => w.heap.size + 2 ≤ g) ⟨⟨l1, .slice x1.1 x1.2.1 x1.2.2, .slice x2.1 x2.2.1 x2.2.2, .slice x3.1 x3.2.1 x3.2.2, .slice x4.1 x4.2.1 x4.2.2⟩, .slice x5.1 x5.2.1 x5.2.2⟩ T l := ⟨T1.out, O5.out.mono (Nat.zero_le _), fun g hg => (O5.out.lt g hg).1⟩
 have KS := hid9c (row_chg (N1.out.step SL.out) X.2 (by omega))
 have BB := Below.and B2.out SL.out
 have FIN := hid9c (And.intro X.1 (And.intro ((MD.chg X.2 (fun g hg => by omega)).mono (G := fun g => w.heap.size ≤ g) (fun g hg => by omega)) (BB.trans (X.2.below (fun g _ hg => by omega) BB.size))))
 clear M2 X MD BB
 refine wpAnyH_ready (rs := [7]) (by kernel_rfl) (by simp) ?_
 refine AllReadyH.cons (o := ⟨_, _, _, _, _, _⟩) rfl (fun K hK => ?_) AllReadyH.nil
 go_simp
 refine hK.out _ _ (fun j => cell_of_cells KS.out) (fun hH2 => ?_)
 clear hK K hH
 have hH := hH2
 clear hH2
 try simp only [Act.put, List.setIfInBounds_toArray, List.set_cons_zero, List.set_cons_succ]
 refine wpAnyH_done (by kernel_rfl) ?_ _
 clear hH m0 f0
 go_wp2_with fail
 simp [bodyPost, results, Tryz.results109, go_sem, cell_of_cells FIN.out.1]
 exact ⟨⟨⟨l1, .slice x1.1 x1.2.1 x1.2.2, .slice x2.1 x2.2.1 x2.2.2, .slice x3.1 x3.2.1 x3.2.2, .slice x4.1 x4.2.1 x4.2.2⟩, .slice x5.1 x5.2.1 x5.2.2⟩, by simp, FIN.out.2⟩
end
section
open Go.RowKit

theorem TreeD.setCell {n : Nat} {w : World} {F : Nat → Prop} {x : TV} {T : Tr} (h : TreeD n w F x T) {a : Addr} (ha : ¬ F a.block) (u : Value) : TreeD n (w.setCell a u) F x T :=
 h.frame fun _ hg _ => Below.heap_setCell _ _ _ _ (fun e => ha (e ▸ hg))
def KidsD (n : Nat) (w : World) (base k : Nat) (ys : List TV) (ts : List Tr) : Prop :=
 ∃ K : Nat → Nat → Prop, (∀ i, i < k → TreeD n w (K i) (tvAt ys i) (ts.getD i noTr)) ∧ (∀ i g, i < k → K i g → base ≤ g ∧ g < w.heap.size) ∧ ∀ i j g, i < j → j < k → K i g → ¬ K j g
theorem KidsD.zero (n : Nat) (w : World) (base : Nat) (ys : List TV) (ts : List Tr) : KidsD n w base 0 ys ts := ⟨fun _ _ => False, fun i hi => by omega, fun i g hi => by omega, fun i j g _ hj => by omega⟩
theorem KidsD.setCell {n : Nat} {w : World} {base k : Nat} {ys : List TV} {ts : List Tr} (h : KidsD n w base k ys ts) {a : Addr} (ha : a.block < base) (u : Value) : KidsD n (w.setCell a u) base k ys ts := by
 obtain ⟨K, h1, h2, h3⟩ := h
 exact ⟨K, fun i hi => (h1 i hi).setCell (fun hk => by have := (h2 i _ hi hk).1; omega) u, fun i g hi hg => by have := h2 i g hi hg; simpa using this, h3⟩
theorem KidsD.add {n : Nat} {w w1 : World} {base k : Nat} {ys : List TV} {ts : List Tr} {y : TV} (h : KidsD n w base k ys ts) (hb : Below w.heap.size w w1) (hy : TreeD n w1 (fun g => w.heap.size ≤ g) y (ts.getD k noTr)) (hk : k < ys.length) (hw : base ≤ w.heap.size) : KidsD n w1 base (k + 1) (ys.set k y) ts := by
 obtain ⟨K, h1, h2, h3⟩ := h
 refine ⟨fun i g => (i < k ∧ K i g) ∨ (i = k ∧ w.heap.size ≤ g ∧ g < w1.heap.size), fun i hi => ?_, fun i g hi hg => ?_, fun i j g hij hj hg hg' => ?_⟩
 ·by_cases hik : i < k
  ·rw [tvAt_set_ne _ _ _ _ (by omega)]
   exact ((h1 i hik).below hb).mono (fun g hg => .inl ⟨hik, hg⟩)
  ·have : i = k := by omega
   subst this
   rw [tvAt_set_eq _ _ _ hk]
   exact hy.lt.mono (fun g hg => .inr ⟨rfl, hg⟩)
 ·have hs := hb.size
  rcases hg with ⟨hik, hg⟩ | ⟨_, hg⟩
  ·have := h2 i g hik hg
   omega
  ·omega
 ·rcases hg with ⟨hik, hg⟩ | ⟨hik, hg⟩ <;> rcases hg' with ⟨hjk, hg'⟩ | ⟨hjk, hg'⟩
  ·exact h3 i j g hij hjk hg hg'
  ·have := h2 i g hik hg
   omega
  ·omega
  ·omega
def TreesZ (n : Nat) (w : World) (lo hi : Nat) (v : Value) (ts : List Tr) : Prop :=
 ∃ (xs : List TV) (K : Nat → Nat → Prop), xs.length = ts.length ∧ w.ownsRow lo 69 5 v xs.length (flatT xs) ∧ (∀ i, i < xs.length → TreeD n w (K i) (tvAt xs i) (ts.getD i noTr)) ∧ (∀ i g, i < xs.length → K i g → lo ≤ g ∧ g < hi ∧ ¬ wrB v g) ∧ ∀ i j g, i < j → j < xs.length → K i g → ¬ K j g
theorem TreesZ.setCell {n : Nat} {w : World} {lo hi : Nat} {v : Value} {ts : List Tr} (h : TreesZ n w lo hi v ts) {a : Addr} (ha : a.block < lo) (u : Value) : TreesZ n (w.setCell a u) lo hi v ts := by
 obtain ⟨xs, K, h1, h2, h3, h4, h5⟩ := h
 exact ⟨xs, K, h1, ownsRow_setCell_below h2 ha u, fun i hi => (h3 i hi).setCell (fun hk => by have := (h4 i _ hi hk).1; omega) u, h4, h5⟩
theorem TreesZ.below {n : Nat} {w w' : World} {lo hi : Nat} {v : Value} {ts : List Tr} (h : TreesZ n w lo hi v ts) (hb : Below w.heap.size w w') : TreesZ n w' lo hi v ts := by
 obtain ⟨xs, K, h1, h2, h3, h4, h5⟩ := h
 exact ⟨xs, K, h1, owns_below h2 hb, fun i hi => (h3 i hi).below hb, h4, h5⟩
theorem TreesZ.slice {n : Nat} {w : World} {lo hi : Nat} {v : Value} {ts : List Tr} (h : TreesZ n w lo hi v ts) : ∃ (a : Option Addr) (m q : Nat), v = .slice a m q := by
 obtain ⟨xs, _, _, h6, _⟩ := h
 obtain ⟨a, q, e, _⟩ := (Row.of_owns h6).len
 exact ⟨a, _, q, e⟩
def ToTreeD (n : Nat) : Prop := ∀ (x : TV) (T : Tr) (w : World), TreeAt n w x T → sizeT n T ≤ 1048576 →
  Calls Tryz.prog 98 #[x.val] w fun e w' => ∃ y : TV, e = .returned y.val ∧ TreeD n w' (fun g => w.heap.size ≤ g) y T ∧ Below w.heap.size w w'
def ToTreeDS (n : Nat) : Prop := ∀ (v : Value) (ts : List Tr) (w : World), TreesAt n w v ts → sizeTs n ts ≤ 1048576 →
  Calls Tryz.prog 119 #[v] w fun e w' => ∃ v' : Value, e = .returned v' ∧ TreesZ n w' w.heap.size w'.heap.size v' ts ∧ Below w.heap.size w w'

theorem toTreeDS_of {n : Nat} (H : ToTreeD n) : ToTreeDS n := by
 intro v ts w hts hsz
 obtain ⟨xs, hxl, hrow, hk⟩ := hts
 obtain ⟨a, b, off, cap, rfl, hcap, hmax, ha, c0, c1, c2, c3, c4⟩ := hrow.trees
 obtain ⟨i0, hi, hz0, hz1, hz2⟩ := info_parts Tryz.info69
 unfold maxLen at hmax
 have XL := hid (hxl)
 have hn : xs.length ≤ 1048576 := by unfold sizeTs at hsz; omega
 have SZ : Hid (∀ k, k < xs.length → sizeT n (ts.getD k noTr) ≤ 1048576) := by
  intro k hk
  have h1 := sumTo_succ n ts k (by omega)
  have h2 := sumTo_le n ts (k + 1)
  unfold sizeTs at hsz
  omega
 clear hxl hsz
 go_enter Tryz.func119, Tryz.ntmps119
 go_wp2_with (at_make; refine wpList_make_full _ rfl _ _ 66 rfl w.heap.size 69 i0 _ 5 Tryz.underlying66 hi hz0 hz1 .i64 .i64 _ _ xs.length rfl rfl rfl rfl ?c1 ?c2 ?c3 ?_)
 case c1 => rw [hz2]; omega
 case c2 => unfold maxLen; omega
 case c3 => exact Nat.le_refl _
 intro w0 hown0 hgrow0
 have hb0 : Below w.heap.size w w0 := (Below.refl _ _).grown hgrow0 (Nat.le_refl _) (fun k hk => by cases hk)
 clear hgrow0
 rw [show (madeCells _ (xs.length * 5)).toList = flatT (List.replicate xs.length noTV) from madeCells_tree xs.length] at hown0
 go_wp2
 go_loopw [4] (fun i wr => ∃ (k : Nat) (ys : List TV), k ≤ xs.length ∧ i = .int .i64 k ∧ Hid (ys.length = xs.length) ∧ Hid (wr.ownsRow w.heap.size 69 5 (.slice (some ⟨w.heap.size, 0, none⟩) xs.length xs.length) xs.length (flatT ys)) ∧ Hid (KidsD n wr (w.heap.size + 1) k ys ts) ∧ Below w.heap.size w wr)
  (fun i _ => xs.length - (intOf i).toNat)
 case atStart => exact ⟨0, List.replicate xs.length noTV, Nat.zero_le _, rfl, by show _ = _; simp, hown0, KidsD.zero _ _ _ _ _, hb0⟩
 case round =>
  obtain ⟨k, ys, hkl, rfl, YL, OWN, KS, hb⟩ := hrel
  clear hown0 hb0
  by_cases hlt : k < xs.length
  ·have hal := ha (by omega)
   subst hal
   have d0 := (hb.cell (by exact cell_lt (c0 k hlt))).trans (c0 k hlt)
   have d1 := (hb.cell (by exact cell_lt (c1 k hlt))).trans (c1 k hlt)
   have d2 := (hb.cell (by exact cell_lt (c2 k hlt))).trans (c2 k hlt)
   have d3 := (hb.cell (by exact cell_lt (c3 k hlt))).trans (c3 k hlt)
   have d4 := (hb.cell (by exact cell_lt (c4 k hlt))).trans (c4 k hlt)
   have T0 := hid ((hk k hlt).below hb)
   have S0 := hid (SZ.out k hlt)
   clear c0 c1 c2 c3 c4 hk hrow ha
   go_wp2_with fail
   refine (H (tvAt xs k) _ _ T0.out S0.out).mono ?_
   rintro e w1 ⟨y, rfl, own, hb1⟩
   obtain ⟨a1, a2, a3, a4, q1, q2, q3, q4, hy⟩ := own.treeF.treeAt.shape
   generalize (ts.getD k noTr).leaf = m0, (ts.getD k noTr).pairs.length = m1, (ts.getD k noTr).cuts.length = m2, (ts.getD k noTr).kids.length = m3, (ts.getD k noTr).buf.length = m4 at hy
   have own1 := owns_below OWN.out hb1
   have hwr : w.heap.size + 1 ≤ wr.heap.size := by
    have := (Row.of_owns OWN.out)
    obtain ⟨_, h | ⟨g, cap', cur, hg, _, hh, _⟩⟩ := OWN.out
    ·cases h.1
    ·cases hg
     exact (Array.getElem?_eq_some_iff.1 hh).1
   have hat := flatT_at ys k (by have := YL.out; omega)
   have e0 := (own1.cellAt (k * 5) (by omega)).trans hat.1
   have e1 := (own1.cellAt (k * 5 + 1) (by omega)).trans hat.2.1
   have e2 := (own1.cellAt (k * 5 + 2) (by omega)).trans hat.2.2.1
   have e3 := (own1.cellAt (k * 5 + 3) (by omega)).trans hat.2.2.2.1
   have e4 := (own1.cellAt (k * 5 + 4) (by omega)).trans hat.2.2.2.2
   have f0 := own1.frozenAt (k * 5)
   have f1 := own1.frozenAt (k * 5 + 1)
   have f2 := own1.frozenAt (k * 5 + 2)
   have f3 := own1.frozenAt (k * 5 + 3)
   have f4 := own1.frozenAt (k * 5 + 4)
   have st := (((((own1.stored (k * 5) (.bool y.lf)).1.stored (k * 5 + 1) y.p).1.stored (k * 5 + 2) y.c).1.stored (k * 5 + 3) y.k).1.stored (k * 5 + 4) y.b).1
   rw [flatT_set _ _ k (by have := YL.out; omega)] at st
   have hb2 : Below w.heap.size w w1 := hb.trans (hb1.mono hb.size)
   have KS2 := hid (KS.out.add hb1 own (by have := YL.out; omega) hwr)
   have YL2 : Hid ((ys.set k y).length = xs.length) := by
    have := YL.out
    show _ = _
    simpa using this
   have ST : Hid _ := st
   generalize tvAt ys k = z at *
   subst hy
   clear st OWN hb1 d0 d1 d2 d3 d4 own1 own hat KS T0 S0 YL hwr
   go_wp2
   go_roundw
   case rel => exact ⟨k + 1, _, by omega, by go_num, YL2, ST.out, ((((KS2.out.setCell (Nat.lt_succ_self _) _).setCell (Nat.lt_succ_self _) _).setCell (Nat.lt_succ_self _) _).setCell (Nat.lt_succ_self _) _).setCell (Nat.lt_succ_self _) _, ((((hb2.setCell (Nat.le_refl _) _).setCell (Nat.le_refl _) _).setCell (Nat.le_refl _) _).setCell (Nat.le_refl _) _).setCell (Nat.le_refl _) _⟩
   case measure => simp [intOf]; omega
  ·clear c0 c1 c2 c3 c4 hk hrow ha
   go_wp2
   go_ret
   have hkk : k = xs.length := by omega
   subst hkk
   obtain ⟨K, k1, k2, k3⟩ := KS.out
   refine ⟨_, rfl, ⟨ys, K, by rw [YL.out, XL.out], by rw [YL.out]; exact OWN.out, fun i hi => k1 i (by rw [← YL.out]; exact hi), fun i g hi hg => ?_, fun i j g hij hj => k3 i j g hij (by rw [← YL.out]; exact hj)⟩, hb⟩
   have h4 := k2 i g (by rw [← YL.out]; exact hi) hg
   refine ⟨by omega, h4.2, fun hw => ?_⟩
   obtain ⟨_, _, he, _⟩ := hw
   have := congrArg Value.ownBlock he
   simp [Value.ownBlock] at this
   omega

theorem toTreeD_of {n : Nat} (H : ToTreeDS n) : ToTreeD (n + 1) := by
 intro x T w ht hsz
 obtain ⟨lf, p, c, k, b⟩ := x
 obtain ⟨hlf, hp, hc, hb, hk⟩ := ht.parts
 simp only at hlf hp hc hb hk
 have hS : sizeT (n + 1) T = T.pairs.length + (T.cuts.length + (sizeTs n T.kids + T.buf.length)) := rfl
 have s1 : T.pairs.length ≤ 1048576 := by omega
 have s2 : T.cuts.length ≤ 1048576 := by omega
 have s3 : sizeTs n T.kids ≤ 1048576 := by omega
 have s4 : T.buf.length ≤ 1048576 := by omega
 have R1 := hid (hp)
 have R2 := hid (hc)
 have R3 := hid (hk)
 have R4 := hid (hb)
 have LF := hid (hlf)
 clear hp hc hb hk ht hlf hS hsz
 have st0 := hid (OutAt.start w #[.bool lf, p, c, k, b] #[.bool false, .slice none 0 0, .slice none 0 0, .slice none 0 0, .slice none 0 0] #[.bool lf, .slice none 0 0, .slice none 0 0, .slice none 0 0, .slice none 0 0])
 have bo0 : Hid (Below w.heap.size w (((w.alloc (.cells #[.bool lf, p, c, k, b] 54)).alloc (.cells #[.bool false, .slice none 0 0, .slice none 0 0, .slice none 0 0, .slice none 0 0] 69)).alloc (.cells #[.bool lf, .slice none 0 0, .slice none 0 0, .slice none 0 0, .slice none 0 0] 69))) :=
  (((Below.refl _ _).alloc (Nat.le_refl _) _).alloc (by simp) _).alloc (by simp; omega) _
 show Calls Tryz.prog 98 #[.agg #[.bool lf, p, c, k, b]] w _
 go_enter Tryz.func98, Tryz.ntmps98
 go_wp2_with fail
 refine (toPairS_any _ T.pairs _ (R1.out.below bo0.out) s1).mono ?_
 rintro e w1 ⟨v1, rfl, own1, hb1⟩
 have B1 := hid (Below.and bo0.out hb1)
 have S1 := hid (st0.out.step hb1)
 have O1 := hid (owns_mono own1 st0.out.size)
 obtain ⟨a1, q1, rfl, _⟩ := (Row.of_owns own1).len
 have L1 := hid (fun g (hg : wrB (.slice a1 T.pairs.length q1) g) => ((OwnE.lt (.inl own1)) g hg).2)
 obtain ⟨k0, k1, k2, k3, k4⟩ := S1.out.cells
 clear hb1 own1 bo0 st0
 go_wp2_with fail
 have B1' := B1.out.setCell (p := ⟨w.heap.size + 1 + 1, 1, none⟩) (by show w.heap.size ≤ w.heap.size + 1 + 1; omega) (.slice a1 T.pairs.length q1)
 have S1' := S1.out.set 1 (.slice a1 T.pairs.length q1)
 refine (toIntS_any _ T.cuts _ (R2.out.below B1') s2).mono ?_
 rintro e w2 ⟨v2, rfl, own2, hb2⟩
 have B2 := hid (Below.and B1' hb2)
 have S2 := hid (S1'.step hb2)
 have Z2 : Hid (w1.heap.size ≤ w2.heap.size) := (by have := hb2.size; simpa using this : w1.heap.size ≤ w2.heap.size)
 have O2 := hid (owns_mono own2 S1'.size)
 have O1' := hid (owns_below (ownsRow_setCell_below O1.out (a := ⟨w.heap.size + 1 + 1, 1, none⟩) (by show w.heap.size + 1 + 1 < w.heap.size + 3; omega) _) hb2)
 obtain ⟨a2, q2, rfl, _⟩ := (Row.of_owns own2).len
 have L2 := hid (fun g (hg : wrB (.slice a2 T.cuts.length q2) g) => ((OwnE.lt (.inl own2)) g hg).2)
 have Z0 := hid (S2.out.size)
 clear hb2 own2 B1 B1' S1 S1' O1 k0 k1 k2 k3 k4
 obtain ⟨k0, k1, k2, k3, k4⟩ := S2.out.cells
 go_wp2_with fail
 have B2' := B2.out.setCell (p := ⟨w.heap.size + 1 + 1, 2, none⟩) (by show w.heap.size ≤ w.heap.size + 1 + 1; omega) (.slice a2 T.cuts.length q2)
 have S2' := S2.out.set 2 (.slice a2 T.cuts.length q2)
 refine (H _ T.kids _ (R3.out.below B2') s3).mono ?_
 rintro e w3 ⟨v3, rfl, own3, hb3⟩
 have B3 := hid (Below.and B2' hb3)
 have S3 := hid (S2'.step hb3)
 have O3 : Hid (TreesZ n w3 w2.heap.size w3.heap.size v3 T.kids) := (by have := own3; simpa using this : TreesZ n w3 w2.heap.size w3.heap.size v3 T.kids)
 have O1 := hid (owns_below (ownsRow_setCell_below O1'.out (a := ⟨w.heap.size + 1 + 1, 2, none⟩) (by show w.heap.size + 1 + 1 < w.heap.size + 3; omega) _) hb3)
 have O2' := hid (owns_below (ownsRow_setCell_below O2.out (a := ⟨w.heap.size + 1 + 1, 2, none⟩) (by show w.heap.size + 1 + 1 < w.heap.size + 3; omega) _) hb3)
 obtain ⟨a3, m3, q3, rfl⟩ := own3.slice
 clear hb3 own3 B2 B2' S2 S2' O1' O2 k0 k1 k2 k3 k4
 obtain ⟨k0, k1, k2, k3, k4⟩ := S3.out.cells
 go_wp2_with fail
 have B3' := B3.out.setCell (p := ⟨w.heap.size + 1 + 1, 3, none⟩) (by show w.heap.size ≤ w.heap.size + 1 + 1; omega) (.slice a3 m3 q3)
 have S3' := S3.out.set 3 (.slice a3 m3 q3)
 refine (toMsgS_any _ T.buf _ (R4.out.below B3') s4).mono ?_
 rintro e w4 ⟨v4, rfl, own4, hb4⟩
 have B4 := hid (Below.and B3' hb4)
 have S4 := hid (S3'.step hb4)
 have O4 := hid (owns_mono own4 S3'.size)
 have L4 : Hid (∀ g, wrB v4 g → w3.heap.size ≤ g) := fun g hg => by have := ((OwnE.lt (.inl own4)) g hg).1; simpa using this
 have O1' := hid (owns_below (ownsRow_setCell_below O1.out (a := ⟨w.heap.size + 1 + 1, 3, none⟩) (by show w.heap.size + 1 + 1 < w.heap.size + 3; omega) _) hb4)
 have O2 := hid (owns_below (ownsRow_setCell_below O2'.out (a := ⟨w.heap.size + 1 + 1, 3, none⟩) (by show w.heap.size + 1 + 1 < w.heap.size + 3; omega) _) hb4)
 have O3' := hid ((O3.out.setCell (a := ⟨w.heap.size + 1 + 1, 3, none⟩) (by show w.heap.size + 1 + 1 < w2.heap.size; have := Z0.out; omega) _).below hb4)
 obtain ⟨a4, q4, rfl, _⟩ := (Row.of_owns own4).len
 clear hb4 own4 B3 B3' S3 S3' O1 O2' O3 k0 k1 k2 k3 k4
 obtain ⟨k0, k1, k2, k3, k4⟩ := S4.out.cells
 go_wp2
 refine bodyPost_ret (v := .agg #[.bool lf, .slice a1 T.pairs.length q1, .slice a2 T.cuts.length q2, .slice a3 m3 q3, .slice a4 T.buf.length q4]) (by simp [results, Tryz.results98, go_sem, k1]) rfl ⟨⟨lf, .slice a1 T.pairs.length q1, .slice a2 T.cuts.length q2, .slice a3 m3 q3, .slice a4 T.buf.length q4⟩, rfl, ?_, ?_⟩
 ·have hT : TreeD (n + 1) w4 (fun g => w.heap.size + 3 ≤ g) ⟨lf, .slice a1 T.pairs.length q1, .slice a2 T.cuts.length q2, .slice a3 m3 q3, .slice a4 T.buf.length q4⟩ T := by
   obtain ⟨xs, K, e1, e2, e3, e4, e5⟩ := O3'.out
   have z0 := Z0.out
   have z2 := Z2.out
   refine ⟨LF.out, .inl (owns_mono O1'.out (Nat.zero_le _)), .inl (owns_mono O2.out (Nat.zero_le _)), .inl (owns_mono O4.out (Nat.zero_le _)), fun g hg => ?_, xs, K, e1, .inl (owns_mono e2 (Nat.zero_le _)), e3, fun i g hi hg => ⟨?_, fun hw => ?_⟩, e5⟩
   ·rcases hg with hg | hg | hg | hg
    ·exact ((OwnE.lt (.inl O1'.out)) g hg).1
    ·exact ((OwnE.lt (.inl O2.out)) g hg).1
    ·exact ((OwnE.lt (.inl O4.out)) g hg).1
    ·have := ((OwnE.lt (.inl e2)) g hg).1
     omega
   ·have := (e4 i g hi hg).1
    omega
   ·have hk := e4 i g hi hg
    rcases hw with hw | hw | hw | hw
    ·have := L1.out g hw
     omega
    ·have := L2.out g hw
     omega
    ·have := L4.out g hw
     omega
    ·exact hk.2.2 hw
  refine TreeD.mono (F := fun g => w.heap.size + 3 ≤ g) ?_ (fun g hg => by omega)
  repeat (refine TreeD.setCell ?_ (by simp only []; omega) _)
  exact hT
 ·repeat (refine Below.setCell ?_ (by simp only []; omega) _)
  exact B4.out

theorem toTreeD_any : ∀ n, ToTreeD n
 | 0 => fun _ _ _ h => h.elim
 | n + 1 => toTreeD_of (toTreeDS_of (toTreeD_any n))
end
end Go.Proofs.YtkcaelfkcepdkaaGreat
