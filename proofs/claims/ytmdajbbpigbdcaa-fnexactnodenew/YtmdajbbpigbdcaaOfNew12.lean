/-
  Copies of machines own their memory.
  New machines of both sides; a list that is made; a region whose operations come in whatever order, by states.
  The laws' own functions that write marks into a list of what was done last, and look for them.
-/
import Derived.Test.YtmdajbbpigbdcaaOfNew11
import Derived.Test.YtmdajbbpigbdcaaOfNew2
import Derived.Test.YtmdajbbpigbdcaaOfNew4
import Derived.OwnWalk
import Derived.Deep.RegionHeld3
import Derived.Test.YtmdajbbpigbdcaaOfNew1
import Derived.Test.YtmdajbbpigbdcaaOfNew3
namespace Go.Proofs.Ytmdajbbpigbdcaa
set_option maxRecDepth 100000
set_option maxHeartbeats 8000000
section
open Go.RowKit

theorem hid9c {p : Prop} (h : p) : Hid p := h
def MacD (n : Nat) (w : World) (F : Nat → Prop) (m : MacV) (T : Tr) (l : DL) : Prop := TreeD n w F m.x T ∧ OwnE w 0 109 4 m.v l.length (flatD l) ∧ ∀ g, wrB m.v g → F g
theorem MacD.below {n : Nat} {w w' : World} {F : Nat → Prop} {m : MacV} {T : Tr} {l : DL} (h : MacD n w F m T l) (hb : Below w.heap.size w w') : MacD n w' F m T l := ⟨h.1.below hb, h.2.1.below hb, h.2.2⟩
theorem MacD.mono {n : Nat} {w : World} {F G : Nat → Prop} {m : MacV} {T : Tr} {l : DL} (h : MacD n w F m T l) (hF : ∀ g, F g → G g) : MacD n w G m T l := ⟨h.1.mono hF, h.2.1, fun g hg => hF g (h.2.2 g hg)⟩
theorem MacD.chg {n : Nat} {w w' : World} {F P : Nat → Prop} {m : MacV} {T : Tr} {l : DL} (h : MacD n w F m T l) (hc : Chg P w w') (hd : ∀ g, F g → ¬ P g) : MacD n w' F m T l := ⟨h.1.chg hc hd, h.2.1.chg hc (fun g hg => hd g (h.2.2 g hg)), h.2.2⟩
theorem OwnE.sl {w : World} {base e size k : Nat} {v : Value} {xs : List Value} (h : OwnE w base e size v k xs) : ∃ x : Option Addr × Nat × Nat, v = .slice x.1 x.2.1 x.2.2 := by
 obtain ⟨a, cap, e⟩ := h.slice
 exact ⟨(a, k, cap), e⟩
theorem TreeD.sl {n : Nat} {w : World} {F : Nat → Prop} {x : TV} {T : Tr} (h : TreeD n w F x T) : ∃ (b : Bool) (x1 x2 x3 x4 : Option Addr × Nat × Nat), x = ⟨b, .slice x1.1 x1.2.1 x1.2.2, .slice x2.1 x2.2.1 x2.2.2, .slice x3.1 x3.2.1 x3.2.2, .slice x4.1 x4.2.1 x4.2.2⟩ := by
 obtain ⟨a1, a2, a3, a4, b1, b2, b3, b4, hy⟩ := h.treeF.treeAt.shape
 exact ⟨_, (a1, _, b1), (a2, _, b2), (a3, _, b3), (a4, _, b4), hy⟩
theorem flatD_one (l : DL) : ∀ y ∈ flatD l, y.oneCell' = true := by
 intro y hy
 simp only [flatD, List.mem_flatMap] at hy
 obtain ⟨p, _, hp⟩ := hy
 simp at hp
 rcases hp with rfl | rfl | rfl | rfl <;> rfl
theorem setSix {W : World} {R : Nat} {t : TypeId} {x0 x1 x2 x3 x4 x5 : Value} (a b c d e f : Value) (h : W.heap[R]? = some (.cells #[x0, x1, x2, x3, x4, x5] t (0, 0))) : ((((((W.setCell ⟨R, 0, none⟩ a).setCell ⟨R, 1, none⟩ b).setCell ⟨R, 2, none⟩ c).setCell ⟨R, 3, none⟩ d).setCell ⟨R, 4, none⟩ e).setCell ⟨R, 5, none⟩ f).heap[R]? = some (.cells #[a, b, c, d, e, f] t (0, 0)) ∧ Chg (fun g => g = R) W ((((((W.setCell ⟨R, 0, none⟩ a).setCell ⟨R, 1, none⟩ b).setCell ⟨R, 2, none⟩ c).setCell ⟨R, 3, none⟩ d).setCell ⟨R, 4, none⟩ e).setCell ⟨R, 5, none⟩ f) := by
 have h0 := heap_setCell_same W R 0 _ _ a h
 have h1 := heap_setCell_same _ R 1 _ _ b h0
 have h2 := heap_setCell_same _ R 2 _ _ c h1
 have h3 := heap_setCell_same _ R 3 _ _ d h2
 have h4 := heap_setCell_same _ R 4 _ _ e h3
 have h5 := heap_setCell_same _ R 5 _ _ f h4
 exact ⟨by simpa using h5, ((((((Chg.refl (fun g => g = R) W).setAt R 0 rfl a).setAt R 1 rfl b).setAt R 2 rfl c).setAt R 3 rfl d).setAt R 4 rfl e).setAt R 5 rfl f⟩

theorem run_cpT (args : Array Value) (w : World) : (callFunc 76 args).run Try.prog w = .ok (.enter 76 args) w := by go_simp
theorem run_clD (args : Array Value) (w : World) : (callFunc 77 args).run Try.prog w = .ok (.enter 77 args) w := by go_simp

theorem copyOfMachine_any (d : Bool) (n : Nat) (m : MacV) (T : Tr) (l : DL) (F : Nat → Prop) (w : World) (ht : Src d n w F m.x T) (hr : Row w m.v l.length (flatD l)) (hs : sizeT n T ≤ 1048576) (hd : d = false → sizeT n T ≤ 100000) (hl : l.length ≤ 1048576) :
  Calls Try.prog 50 #[m.val] w fun e w' => ∃ m' : MacV, e = .returned m'.val ∧ MacD n w' (fun g => w.heap.size ≤ g) m' T l ∧ Below w.heap.size w w' := by
 have C1 : Hid (∀ u, Below w.heap.size w u → Calls Try.prog 76 #[m.x.val] u fun e w' => ∃ y : TV, e = .returned y.val ∧ TreeD n w' (fun g => u.heap.size ≤ g) y T ∧ Below u.heap.size u w') := fun u hu => copyOfTree_any d n m.x T F u (ht.below hu) hs hd
 have C2 : Hid (∀ u, Below w.heap.size w u → Calls Try.prog 77 #[m.v] u fun e w' => ∃ v', e = .returned v' ∧ OwnE w' u.heap.size 109 4 v' l.length (flatD l) ∧ Below u.heap.size u w') := fun u hu => cloneD_any m.v l.length (flatD l) u (hr.below hu) (flatD_length l) (flatD_one l) (by omega)
 clear ht hr hs hd hl
 obtain ⟨⟨lf, p, c, k, b⟩, v⟩ := m
 have N1 := hid9c ((MBox.start 33 w #[.bool lf, p, c, k, b, v]).step (bel_nw _ (.cells #[.bool false, .slice none 0 0, .slice none 0 0, .slice none 0 0, .slice none 0 0, .slice none 0 0] 33)))
 have N2 : Hid (MBox 33 ((w.alloc (.cells #[.bool lf, p, c, k, b, v] 33)).alloc (.cells #[.bool false, .slice none 0 0, .slice none 0 0, .slice none 0 0, .slice none 0 0, .slice none 0 0] 33)) (w.heap.size + 1) #[.bool false, .slice none 0 0, .slice none 0 0, .slice none 0 0, .slice none 0 0, .slice none 0 0]) := by
  have := MBox.start 33 (w.alloc (.cells #[.bool lf, p, c, k, b, v] 33)) #[.bool false, .slice none 0 0, .slice none 0 0, .slice none 0 0, .slice none 0 0, .slice none 0 0]
  rw [World.size_alloc] at this
  exact this
 have B2 : Hid (Below w.heap.size w ((w.alloc (.cells #[.bool lf, p, c, k, b, v] 33)).alloc (.cells #[.bool false, .slice none 0 0, .slice none 0 0, .slice none 0 0, .slice none 0 0, .slice none 0 0] 33))) := Below.and (bel_nw _ _) (bel_nw _ _)
 have ZZ : Hid (((w.alloc (.cells #[.bool lf, p, c, k, b, v] 33)).alloc (.cells #[.bool false, .slice none 0 0, .slice none 0 0, .slice none 0 0, .slice none 0 0, .slice none 0 0] 33)).heap.size = w.heap.size + 2) := by show _ = _; simp
 show Calls Try.prog 50 #[.agg #[.bool lf, p, c, k, b, v]] w _
 go_enter Try.func50, Try.ntmps50
 go_wp2_with fail
 generalize ((w.alloc (.cells #[.bool lf, p, c, k, b, v] 33)).alloc (.cells #[.bool false, .slice none 0 0, .slice none 0 0, .slice none 0 0, .slice none 0 0, .slice none 0 0] 33)) = W at *
 have KEEP : Hid (∀ u, Below W.heap.size W u → (fun u => (∀ j, u.cell? ⟨w.heap.size, j, none⟩ = (#[.bool lf, p, c, k, b, v] : Array Value)[j]?)) u) := fun u hu => (N1.out.step hu).cells
 have SL : Hid (Below W.heap.size W W.drew) := (Below.refl _ _).drew
 refine wp_region_held_drew (S := (fun u => (∀ j, u.cell? ⟨w.heap.size, j, none⟩ = (#[.bool lf, p, c, k, b, v] : Array Value)[j]?))) (by kernel_rfl) (KEEP.out _ SL.out) (fun hH => ?_)
 refine wpAnyH_take (i := 0) (oi := ⟨_, _, _, _, _, _⟩) (v := ?_) rfl (by kernel_rfl) (by kernel_rfl) (by kernel_rfl) (fun _ _ _ h => h) (Or.inl ⟨by rfl, ?_⟩) (by assumption) ?_
 rotate_left
 ·((intro w hSw; (try dsimp only at hSw); go_simp); (try with_reducible rfl))
 try simp only [Act.put, List.setIfInBounds_toArray, List.set_cons_zero, List.set_cons_succ]
 refine wpAnyH_take (i := 1) (oi := ⟨_, _, _, _, _, _⟩) (v := ?_) rfl (by kernel_rfl) (by kernel_rfl) (by kernel_rfl) (fun _ _ _ h => h) (Or.inl ⟨by rfl, ?_⟩) (by assumption) ?_
 rotate_left
 ·((intro w hSw; (try dsimp only at hSw); go_simp); (try with_reducible rfl))
 try simp only [Act.put, List.setIfInBounds_toArray, List.set_cons_zero, List.set_cons_succ]
 refine wpAnyH_take (i := 3) (oi := ⟨_, _, _, _, _, _⟩) (v := ?_) rfl (by kernel_rfl) (by kernel_rfl) (by kernel_rfl) (fun _ _ _ h => h) (Or.inl ⟨by rfl, ?_⟩) (by assumption) ?_
 rotate_left
 ·((intro w hSw; (try dsimp only at hSw); go_simp); (try with_reducible rfl))
 try simp only [Act.put, List.setIfInBounds_toArray, List.set_cons_zero, List.set_cons_succ]
 refine wpAnyH_take (i := 4) (oi := ⟨_, _, _, _, _, _⟩) (v := ?_) rfl (by kernel_rfl) (by kernel_rfl) (by kernel_rfl) (fun _ _ _ h => h) (Or.inl ⟨by rfl, ?_⟩) (by assumption) ?_
 rotate_left
 ·((intro w hSw; (try dsimp only at hSw); go_simp); (try with_reducible rfl))
 try simp only [Act.put, List.setIfInBounds_toArray, List.set_cons_zero, List.set_cons_succ]
 refine wpAnyH_ready (rs := [2]) (by kernel_rfl) (by simp) ?_
 refine AllReadyH.cons (o := ⟨_, _, _, _, _, _⟩) rfl (fun K hK => ?_) AllReadyH.nil
 refine (if_pos (show Region.wanted _ _ = true by kernel_rfl)).mpr ?_
 refine call_by 76 [.tmp 4] #[30] rfl run_cpT _ rfl (C1.out _ (Below.and B2.out SL.out)) ?_
 rintro e u1 ⟨y, rfl, t1, b1⟩
 have T1 := hid9c (t1.mono (G := fun g => w.heap.size + 2 ≤ g) (fun g hg => by have h1 := SL.out.size; have h2 := ZZ.out; omega))
 obtain ⟨l1, x1, x2, x3, x4, hy⟩ := t1.sl
 subst hy
 replace SL := hid9c (Below.and SL.out b1)
 clear t1 b1
 refine ⟨_, rfl, ?_⟩
 refine hK.out _ _ (KEEP.out _ SL.out) (fun hH2 => ?_)
 clear hK K hH
 have hH := hH2
 clear hH2
 try simp only [Act.put, List.setIfInBounds_toArray, List.set_cons_zero, List.set_cons_succ]
 refine wpAnyH_ready (rs := [5]) (by kernel_rfl) (by simp) ?_
 refine AllReadyH.cons (o := ⟨_, _, _, _, _, _⟩) rfl (fun K hK => ?_) AllReadyH.nil
 refine (if_pos (show Region.wanted _ _ = true by kernel_rfl)).mpr ?_
 refine call_by 77 [.tmp 7] #[31] rfl run_clD _ rfl (C2.out _ (Below.and B2.out SL.out)) ?_
 rintro e u2 ⟨v5, rfl, o5, b5⟩
 have O5 := hid9c (o5.mono (base' := w.heap.size + 2) (by have h1 := SL.out.size; have h2 := ZZ.out; omega))
 obtain ⟨x5, hx⟩ := o5.sl
 subst hx
 replace SL := hid9c (Below.and SL.out b5)
 replace T1 := hid9c (T1.out.below b5)
 clear o5 b5
 refine ⟨_, rfl, ?_⟩
 refine hK.out _ _ (KEEP.out _ SL.out) (fun hH2 => ?_)
 clear hK K hH
 have hH := hH2
 clear hH2
 try simp only [Act.put, List.setIfInBounds_toArray, List.set_cons_zero, List.set_cons_succ]
 refine wpAnyH_take (i := 6) (oi := ⟨_, _, _, _, _, _⟩) (v := ?_) rfl (by kernel_rfl) (by kernel_rfl) (by kernel_rfl) (fun _ _ _ h => h) (Or.inl ⟨by rfl, ?_⟩) (by assumption) ?_
 rotate_left
 ·((intro w hSw; (try dsimp only at hSw); go_simp); (try with_reducible rfl))
 try simp only [Act.put, List.setIfInBounds_toArray, List.set_cons_zero, List.set_cons_succ]
 have M2 := N2.out.step SL.out
 have m0 : ∀ j, u2.cell? ⟨w.heap.size + 1, j, none⟩ = (#[.bool false, .slice none 0 0, .slice none 0 0, .slice none 0 0, .slice none 0 0, .slice none 0 0] : Array Value)[j]? := M2.cells
 have f0 : ∀ j, u2.frozen? ⟨w.heap.size + 1, j, none⟩ = false := fun j => frozen_of_cells M2
 have X := setSix (.bool l1) (.slice x1.1 x1.2.1 x1.2.2) (.slice x2.1 x2.2.1 x2.2.2) (.slice x3.1 x3.2.1 x3.2.2) (.slice x4.1 x4.2.1 x4.2.2) (.slice x5.1 x5.2.1 x5.2.2) M2
 have MD : MacD n u2 (fun g => w.heap.size + 2 ≤ g) ⟨⟨l1, .slice x1.1 x1.2.1 x1.2.2, .slice x2.1 x2.2.1 x2.2.2, .slice x3.1 x3.2.1 x3.2.2, .slice x4.1 x4.2.1 x4.2.2⟩, .slice x5.1 x5.2.1 x5.2.2⟩ T l := ⟨T1.out, O5.out.mono (Nat.zero_le _), fun g hg => (O5.out.lt g hg).1⟩
 have KS := hid9c (row_chg (N1.out.step SL.out) X.2 (by omega))
 have BB := Below.and B2.out SL.out
 have FIN := hid9c (And.intro X.1 (And.intro ((MD.chg X.2 (fun g hg => by omega)).mono (G := fun g => w.heap.size ≤ g) (fun g hg => by omega)) (BB.trans (X.2.below (fun g _ hg => by omega) BB.size))))
 clear M2 X MD BB
 refine wpAnyH_ready (rs := [7]) (by kernel_rfl) (by simp) ?_
 refine AllReadyH.cons (o := ⟨_, _, _, _, _, _⟩) rfl (fun K hK => ?_) AllReadyH.nil
 go_simp
 refine hK.out _ _ (fun j => cell_of_cells KS.out) (fun hH2 => ?_)
 clear hK K hH
 have hH := hH2
 clear hH2
 try simp only [Act.put, List.setIfInBounds_toArray, List.set_cons_zero, List.set_cons_succ]
 refine wpAnyH_done (by kernel_rfl) ?_ _
 clear hH m0 f0
 go_wp2_with fail
 simp [bodyPost, results, Try.results50, go_sem, cell_of_cells FIN.out.1]
 exact ⟨⟨⟨l1, .slice x1.1 x1.2.1 x1.2.2, .slice x2.1 x2.2.1 x2.2.2, .slice x3.1 x3.2.1 x3.2.2, .slice x4.1 x4.2.1 x4.2.2⟩, .slice x5.1 x5.2.1 x5.2.2⟩, by simp, FIN.out.2⟩
end
section
open Go.RowKit

abbrev emptyV : Value := .agg #[.bool true, .slice none 0 0, .slice none 0 0, .slice none 0 0, .slice none 0 0]
abbrev emptyM : Value := .agg #[.bool true, .slice none 0 0, .slice none 0 0, .slice none 0 0, .slice none 0 0, .slice none 0 0]
theorem specTreeNew0 (w : World) : Calls Try.prog 46 #[] w fun e w' => e = .returned emptyV ∧ Below w.heap.size w w' := by
 go_enter Try.func46, Try.ntmps46
 go_wp2
 refine bodyPost_ret (v := emptyV) (by simp [results, Try.results46, go_sem]) rfl ⟨rfl, bel_nw _ _⟩

theorem specMachineNew0 (w : World) : Calls Try.prog 16 #[] w fun e w' => e = .returned emptyM ∧ Below w.heap.size w w' := by
 have B0 : Hid (Below w.heap.size w (w.alloc (.cells #[.bool false, .slice none 0 0, .slice none 0 0, .slice none 0 0, .slice none 0 0, .slice none 0 0] 33))) := bel_nw w _
 have hn : (w.alloc (.cells #[.bool false, .slice none 0 0, .slice none 0 0, .slice none 0 0, .slice none 0 0, .slice none 0 0] 33)).heap[w.heap.size]? = some (.cells #[.bool false, .slice none 0 0, .slice none 0 0, .slice none 0 0, .slice none 0 0, .slice none 0 0] 33 (0, 0)) := heap_alloc_new w _
 have N0 : Hid ((w.alloc (.cells #[.bool false, .slice none 0 0, .slice none 0 0, .slice none 0 0, .slice none 0 0, .slice none 0 0] 33)).heap[w.heap.size]? = some (.cells #[.bool false, .slice none 0 0, .slice none 0 0, .slice none 0 0, .slice none 0 0, .slice none 0 0] 33 (0, 0))) := hn
 clear hn
 go_enter Try.func16, Try.ntmps16
 go_wp2_with fail
 generalize (w.alloc (.cells #[.bool false, .slice none 0 0, .slice none 0 0, .slice none 0 0, .slice none 0 0, .slice none 0 0] 33)) = W at *
 refine Calls.mono (specTreeNew0 _) ?_
 rintro e w1 ⟨rfl, b1⟩
 have hl := (Array.getElem?_eq_some_iff.1 N0.out).1
 have n1 := (b1.block _ hl).trans N0.out
 have B1 : Hid (Below w.heap.size w w1) := Below.and B0.out b1
 clear b1 N0 B0 hl
 have fz : ∀ j, w1.frozen? ⟨w.heap.size, j, none⟩ = false := fun j => frozen_of_cells n1
 have c0 : w1.cell? ⟨w.heap.size, 0, none⟩ = some (.bool false) := by rw [cell_of_cells n1]; rfl
 have c1 : w1.cell? ⟨w.heap.size, 1, none⟩ = some (.slice none 0 0) := by rw [cell_of_cells n1]; rfl
 have c2 : w1.cell? ⟨w.heap.size, 2, none⟩ = some (.slice none 0 0) := by rw [cell_of_cells n1]; rfl
 have c3 : w1.cell? ⟨w.heap.size, 3, none⟩ = some (.slice none 0 0) := by rw [cell_of_cells n1]; rfl
 have c4 : w1.cell? ⟨w.heap.size, 4, none⟩ = some (.slice none 0 0) := by rw [cell_of_cells n1]; rfl
 have c5 : w1.cell? ⟨w.heap.size, 5, none⟩ = some (.slice none 0 0) := by rw [cell_of_cells n1]; rfl
 have n2 := six_at (.bool true) (.slice none 0 0) (.slice none 0 0) (.slice none 0 0) (.slice none 0 0) (.slice none 0 0) n1
 have B2 : Hid _ := B1.out.trans ((six_chg w1 w.heap.size (.bool true) (.slice none 0 0) (.slice none 0 0) (.slice none 0 0) (.slice none 0 0) (.slice none 0 0)).below (fun g _ hg => by omega) B1.out.size)
 clear n1 B1
 go_wp2_with fail
 simp [bodyPost, results, Try.results16, go_sem, cell_of_cells n2]
 exact B2.out

theorem implTreeNew0 (w : World) : Calls Try.prog 49 #[] w fun e w' => e = .returned emptyV ∧ Below w.heap.size w w' := by
 go_enter Try.func49, Try.ntmps49
 go_wp2
 refine bodyPost_ret (v := emptyV) (by simp [results, Try.results49, go_sem]) rfl ⟨rfl, bel_nw _ _⟩

theorem implMachineNew0 (w : World) : Calls Try.prog 21 #[] w fun e w' => e = .returned emptyM ∧ Below w.heap.size w w' := by
 have B0 : Hid (Below w.heap.size w (w.alloc (.cells #[.bool false, .slice none 0 0, .slice none 0 0, .slice none 0 0, .slice none 0 0, .slice none 0 0] 33))) := bel_nw w _
 have hn : (w.alloc (.cells #[.bool false, .slice none 0 0, .slice none 0 0, .slice none 0 0, .slice none 0 0, .slice none 0 0] 33)).heap[w.heap.size]? = some (.cells #[.bool false, .slice none 0 0, .slice none 0 0, .slice none 0 0, .slice none 0 0, .slice none 0 0] 33 (0, 0)) := heap_alloc_new w _
 have N0 : Hid ((w.alloc (.cells #[.bool false, .slice none 0 0, .slice none 0 0, .slice none 0 0, .slice none 0 0, .slice none 0 0] 33)).heap[w.heap.size]? = some (.cells #[.bool false, .slice none 0 0, .slice none 0 0, .slice none 0 0, .slice none 0 0, .slice none 0 0] 33 (0, 0))) := hn
 clear hn
 go_enter Try.func21, Try.ntmps21
 go_wp2_with fail
 generalize (w.alloc (.cells #[.bool false, .slice none 0 0, .slice none 0 0, .slice none 0 0, .slice none 0 0, .slice none 0 0] 33)) = W at *
 refine Calls.mono (implTreeNew0 _) ?_
 rintro e w1 ⟨rfl, b1⟩
 have hl := (Array.getElem?_eq_some_iff.1 N0.out).1
 have n1 := (b1.block _ hl).trans N0.out
 have B1 : Hid (Below w.heap.size w w1) := Below.and B0.out b1
 clear b1 N0 B0 hl
 have fz : ∀ j, w1.frozen? ⟨w.heap.size, j, none⟩ = false := fun j => frozen_of_cells n1
 have c0 : w1.cell? ⟨w.heap.size, 0, none⟩ = some (.bool false) := by rw [cell_of_cells n1]; rfl
 have c1 : w1.cell? ⟨w.heap.size, 1, none⟩ = some (.slice none 0 0) := by rw [cell_of_cells n1]; rfl
 have c2 : w1.cell? ⟨w.heap.size, 2, none⟩ = some (.slice none 0 0) := by rw [cell_of_cells n1]; rfl
 have c3 : w1.cell? ⟨w.heap.size, 3, none⟩ = some (.slice none 0 0) := by rw [cell_of_cells n1]; rfl
 have c4 : w1.cell? ⟨w.heap.size, 4, none⟩ = some (.slice none 0 0) := by rw [cell_of_cells n1]; rfl
 have c5 : w1.cell? ⟨w.heap.size, 5, none⟩ = some (.slice none 0 0) := by rw [cell_of_cells n1]; rfl
 have n2 := six_at (.bool true) (.slice none 0 0) (.slice none 0 0) (.slice none 0 0) (.slice none 0 0) (.slice none 0 0) n1
 have B2 : Hid _ := B1.out.trans ((six_chg w1 w.heap.size (.bool true) (.slice none 0 0) (.slice none 0 0) (.slice none 0 0) (.slice none 0 0) (.slice none 0 0)).below (fun g _ hg => by omega) B1.out.size)
 clear n1 B1
 go_wp2_with fail
 simp [bodyPost, results, Try.results21, go_sem, cell_of_cells n2]
 exact B2.out

def nwT : Tr := ⟨true, [], [], [], []⟩
def eM : MacV := ⟨⟨true, .slice none 0 0, .slice none 0 0, .slice none 0 0, .slice none 0 0⟩, .slice none 0 0⟩
def zT : Tr := ⟨false, [], [], [], []⟩
def zM : MacV := ⟨⟨false, .slice none 0 0, .slice none 0 0, .slice none 0 0, .slice none 0 0⟩, .slice none 0 0⟩
theorem wrB_none {g n c : Nat} (h : wrB (.slice none n c) g) : False := by
 obtain ⟨k, c, e, _⟩ := h
 cases e
theorem nM_own (b : Bool) (n : Nat) (w : World) (F : Nat → Prop) : MacD (n + 1) w F ⟨⟨b, .slice none 0 0, .slice none 0 0, .slice none 0 0, .slice none 0 0⟩, .slice none 0 0⟩ ⟨b, [], [], [], []⟩ [] := by
 refine ⟨⟨rfl, OwnE.nil _ _ _ _, OwnE.nil _ _ _ _, OwnE.nil _ _ _ _, fun g hg => ?_, [], fun _ _ => False, rfl, OwnE.nil _ _ _ _, fun i hi => ?_, fun i g hi => ?_, fun i j g _ hj => ?_⟩, OwnE.nil _ _ _ _, fun g hg => (wrB_none hg).elim⟩
 ·rcases hg with hg | hg | hg | hg <;> exact (wrB_none hg).elim
 ·simp at hi
 ·simp at hi
 ·simp at hj
theorem wp_make {P : Program} {w : World} {o : Oper} {a : Act} {K : Act → World → Prop} {Q : Exit → Act → World → Prop}
  (l c : Operand) (t : TypeId) (hop : o.op = Op.makeSlice t l c)
  (base : Nat) (e : TypeId) (i : TypeInfo) (z : Value) (size : Nat) (h1 : P.underlying t = some (.slice e)) (h2 : P.info? e = some i) (h3 : i.zero = some z) (h4 : i.size = size)
  (n : Nat) (hl : a.eval l = .int .i64 (n : Int)) (hc : a.eval c = .int .i64 (n : Int)) (b2 : i.bytes * n ≤ 281474976710656) (b3 : n ≤ maxLen) (b4 : base ≤ w.heap.size)
  (hK : ∀ w', w'.ownsRow base e size (.slice (some ⟨w.heap.size, 0, none⟩) n n) n (madeCells z.cells (n * size)).toList → w.grownBy w' none → K (a.put o.dst (.slice (some ⟨w.heap.size, 0, none⟩) n n)) w') : o.wp P a w K Q := by
 obtain ⟨w', hrun, r1, r2⟩ := run_make_full (P := P) w base t e i z size h1 h2 h3 h4 .i64 .i64 n b2 b3 b4
 unfold Oper.wp
 simp [execOp, hop, hl, hc, hrun, Result.andThen]
 exact hK w' r1 r2

def cnt5 (a b c d e : Bool) : Nat := (if a then 0 else 1) + (if b then 0 else 1) + (if c then 0 else 1) + (if d then 0 else 1) + (if e then 0 else 1)
theorem rec5 {P : Program} {md : Region.Mode} {ops : Array Oper} {Q : Exit → Act → World → Prop} {S : World → Prop}
  (Inv : Bool → Bool → Bool → Bool → Bool → Nat → Nat → Nat → Nat → World → Prop) (lst : Bool → Bool → Bool → Bool → Bool → Array Bool) (act : Bool → Bool → Bool → Bool → Bool → Nat → Nat → Nat → Nat → Act) (lstF : Array Bool) (actF : Nat → Nat → Nat → Nat → Act)
  (fin : ∀ x y z b W, Inv true true true true true x y z b W → wpAnyH P md ops Q S 1 lstF (actF x y z b) W)
  (base : (∀ x y z b W, Inv true true true true true x y z b W → wpAnyH P md ops Q S 1 lstF (actF x y z b) W) → ∀ x y z b W, Inv true true true true true x y z b W → wpAnyH P md ops Q S 2 (lst true true true true true) (act true true true true true x y z b) W)
  (step : (∀ x y z b W, Inv true true true true true x y z b W → wpAnyH P md ops Q S 1 lstF (actF x y z b) W) → ∀ N, (∀ b1 b2 b3 b4 b5 x y z b W, cnt5 b1 b2 b3 b4 b5 = N → Inv b1 b2 b3 b4 b5 x y z b W → wpAnyH P md ops Q S (N + 2) (lst b1 b2 b3 b4 b5) (act b1 b2 b3 b4 b5 x y z b) W) →
   ∀ b1 b2 b3 b4 b5 x y z b W, cnt5 b1 b2 b3 b4 b5 = N + 1 → Inv b1 b2 b3 b4 b5 x y z b W → wpAnyH P md ops Q S (N + 1 + 2) (lst b1 b2 b3 b4 b5) (act b1 b2 b3 b4 b5 x y z b) W) :
  ∀ b1 b2 b3 b4 b5 x y z b W, Inv b1 b2 b3 b4 b5 x y z b W → wpAnyH P md ops Q S (cnt5 b1 b2 b3 b4 b5 + 2) (lst b1 b2 b3 b4 b5) (act b1 b2 b3 b4 b5 x y z b) W := by
 have all : ∀ N b1 b2 b3 b4 b5 x y z b W, cnt5 b1 b2 b3 b4 b5 = N → Inv b1 b2 b3 b4 b5 x y z b W → wpAnyH P md ops Q S (N + 2) (lst b1 b2 b3 b4 b5) (act b1 b2 b3 b4 b5 x y z b) W := by
  intro N
  induction N with
  | zero =>
   intro b1 b2 b3 b4 b5 x y z b W h0 hI
   cases b1 <;> cases b2 <;> cases b3 <;> cases b4 <;> cases b5 <;> first | exact base fin x y z b W hI | (simp [cnt5] at h0)
  | succ N ih => exact step fin N ih
 intro b1 b2 b3 b4 b5 x y z b W hI
 exact all _ b1 b2 b3 b4 b5 x y z b W rfl hI
end
section
open Go.RowKit

abbrev mrk (k : Int) : Bool := k % 3 == 0
def marksD (k : Int) (n : Nat) : DL := (List.range n).map fun (i : Nat) => (k + 4 * i, k + 4 * i + 1, k + 4 * i + 1 + 1, mrk (k + 4 * i + 1 + 1 + 1))
theorem marksD_length (k : Int) (n : Nat) : (marksD k n).length = n := by simp [marksD]
theorem marksD_succ (k : Int) (n : Nat) : marksD k (n + 1) = marksD k n ++ [(k + 4 * n, k + 4 * n + 1, k + 4 * n + 1 + 1, mrk (k + 4 * n + 1 + 1 + 1))] := by simp [marksD, List.range_succ]
theorem marksD_at (k : Int) (n i : Nat) (h : i < n) : dC (marksD k n) i = k + 4 * i ∧ dS (marksD k n) i = k + 4 * i + 1 ∧ dV (marksD k n) i = k + 4 * i + 1 + 1 ∧ dH (marksD k n) i = mrk (k + 4 * i + 1 + 1 + 1) := by
 simp [marksD, dC, dS, dV, dH, List.getD, h]
def midD (k : Int) (l : DL) (i : Nat) : DL := marksD k i ++ l.drop i
theorem midD_length (k : Int) (l : DL) (i : Nat) (h : i ≤ l.length) : (midD k l i).length = l.length := by simp [midD, marksD_length]; omega
theorem midD_zero (k : Int) (l : DL) : midD k l 0 = l := by simp [midD, marksD]
theorem midD_full (k : Int) (l : DL) : midD k l l.length = marksD k l.length := by simp [midD]
theorem midD_step (k : Int) (l : DL) (i : Nat) (h : i < l.length) : (midD k l i).set i (k + 4 * i, k + 4 * i + 1, k + 4 * i + 1 + 1, mrk (k + 4 * i + 1 + 1 + 1)) = midD k l (i + 1) := by
 rw [midD, midD, marksD_succ, List.drop_eq_getElem_cons h, List.set_append_right _ _ (by rw [marksD_length]; omega), marksD_length, Nat.sub_self, List.set_cons_zero]
 simp
theorem owns_capD {w : World} {base e size n cap : Nat} {a : Option Addr} {xs : List Value} (h : w.ownsRow base e size (.slice a n cap) n xs) : cap ≤ maxLen := by
 obtain ⟨_, ⟨e, _⟩ | ⟨g, cap', cur, e, _, _, _, hc, _⟩⟩ := h
 ·simp at e; rw [e.2.2]; exact Nat.zero_le _
 ·simp at e; rw [e.2]; exact hc

theorem markDoneS_any (v : Value) (l : DL) (k : Int) (w : World) (h : w.ownsRow 0 109 4 v l.length (flatD l)) (hn : l.length ≤ 67108864) (hk0 : 0 ≤ k) (hk1 : k ≤ 671088640) :
  Calls Try.prog 55 #[v, .int .i64 k] w fun e w' => e = .returned (.int .i64 (k + 4 * l.length)) ∧ w'.ownsRow 0 109 4 v l.length (flatD (marksD k l.length)) ∧ Chg (fun g => v.ownBlock = some g) w w' := by
 obtain ⟨a, cap, hv⟩ := owns_val h
 have OW : Hid (w.ownsRow 0 109 4 v l.length (flatD l)) := h
 clear h
 rw [hv] at OW ⊢
 clear hv
 have hcap := owns_capD OW.out
 unfold maxLen at hcap
 go_enter Try.func55, Try.ntmps55
 go_wp2
 go_loopw [1, 5] (fun kk i wr => ∃ j : Nat, j ≤ l.length ∧ i = .int .i64 j ∧ kk = .int .i64 (k + 4 * j) ∧ wr.ownsRow 0 109 4 (.slice a l.length cap) l.length (flatD (midD k l j)) ∧ Chg (fun g => (Value.slice a l.length cap).ownBlock = some g) w wr)
  (fun _ i _ => l.length - (intOf i).toNat)
 case atStart => exact ⟨0, Nat.zero_le _, rfl, by simp, by rw [midD_zero]; exact OW.out, Chg.refl _ _⟩
 case round =>
  obtain ⟨j, hj, rfl, rfl, hown, hch⟩ := hrel
  by_cases hlt : j < l.length
  ·have hex : ∃ g, a = some ⟨g, 0, none⟩ := by
    obtain ⟨_, ⟨e, e2⟩ | ⟨g, cap', cur, e, _⟩⟩ := hown
    ·omega
    ·simp at e; exact ⟨g, e.1⟩
   obtain ⟨g, rfl⟩ := hex
   have hml : (midD k l j).length = l.length := midD_length k l j hj
   have hat := flatD_at (midD k l j) j (by omega)
   have e0 := (hown.cellAt (j * 4) (by omega)).trans hat.1
   have f0 := hown.frozenAt (j * 4)
   have e1 := (hown.cellAt (j * 4 + 1) (by omega)).trans hat.2.1
   have f1 := hown.frozenAt (j * 4 + 1)
   have e2 := (hown.cellAt (j * 4 + 2) (by omega)).trans hat.2.2.1
   have f2 := hown.frozenAt (j * 4 + 2)
   have e3 := (hown.cellAt (j * 4 + 3) (by omega)).trans hat.2.2.2
   have f3 := hown.frozenAt (j * 4 + 3)
   have st0 := (hown.stored (j * 4) (.int .i64 (k + 4 * j))).1
   have st1 := (st0.stored (j * 4 + 1) (.int .i64 (k + 4 * j + 1))).1
   have st2 := (st1.stored (j * 4 + 2) (.int .i64 (k + 4 * j + 1 + 1))).1
   have st3 := (st2.stored (j * 4 + 3) (.bool (mrk (k + 4 * j + 1 + 1 + 1)))).1
   rw [flatD_set _ _ _ _ _ j (by omega), midD_step k l j hlt] at st3
   have hch2 : Chg (fun g' => (Value.slice (some ⟨g, 0, none⟩) l.length cap).ownBlock = some g') w ((((wr.setCell ⟨g, j * 4, none⟩ (.int .i64 (k + 4 * j))).setCell ⟨g, j * 4 + 1, none⟩ (.int .i64 (k + 4 * j + 1))).setCell ⟨g, j * 4 + 2, none⟩ (.int .i64 (k + 4 * j + 1 + 1))).setCell ⟨g, j * 4 + 3, none⟩ (.bool (mrk (k + 4 * j + 1 + 1 + 1)))) := (((hch.setAt g (j * 4) rfl _).setAt g (j * 4 + 1) rfl _).setAt g (j * 4 + 2) rfl _).setAt g (j * 4 + 3) rfl _
   generalize dC (midD k l j) j = x0 at *
   generalize dS (midD k l j) j = x1 at *
   generalize dV (midD k l j) j = x2 at *
   generalize dH (midD k l j) j = x3 at *
   have ST : Hid _ := And.intro st3 hch2
   clear st0 st1 st2 st3 hch2 hown hch hml hat OW
   have hb0 : 0 ≤ k + 4 * (j : Int) := by omega
   have hb1 : k + 4 * (j : Int) ≤ 10000000000 := by omega
   go_wp2
   go_roundw
   case rel => exact ⟨j + 1, by omega, by go_num, by go_num, ST.out.1, ST.out.2⟩
   case measure => simp [intOf]; omega
  ·have hjl : j = l.length := by omega
   subst hjl
   go_wp2
   go_ret
   rw [midD_full] at hown
   exact ⟨rfl, hown, hch⟩

theorem heldDoneS_any (v : Value) (n : Nat) (k : Int) (w : World) (h : Row w v n (flatD (marksD k n))) (hn : n ≤ 67108864) (hk0 : 0 ≤ k) (hk1 : k ≤ 671088640) :
  Calls Try.prog 58 #[v, .int .i64 k] w fun e w' => e = .returned (.int .i64 (k + 4 * n)) ∧ w' = w := by
 have h' : Row w v (marksD k n).length (flatD (marksD k n)) := by rw [marksD_length]; exact h
 obtain ⟨a, b, off, cap, rfl, hcap, hmax, ha, h10, h11, h12, h13⟩ := h'.dones
 rw [marksD_length] at *
 unfold maxLen at hmax
 clear h h'
 go_enter Try.func58, Try.ntmps58
 go_wp2
 go_loop [1, 5] (fun kk i => ∃ j : Nat, j ≤ n ∧ i = .int .i64 j ∧ kk = .int .i64 (k + 4 * j)) (fun _ i => n - (intOf i).toNat)
 case atStart => exact ⟨0, Nat.zero_le _, rfl, by simp⟩
 case round =>
  obtain ⟨j, hj, rfl, rfl⟩ := hrel
  by_cases hlt : j < n
  ·have hal := ha (by omega)
   subst hal
   have d0 : w.cell? ⟨b, off + j * 4, none⟩ = some (.int .i64 (k + 4 * j)) := by rw [h10 j hlt, (marksD_at k n j hlt).1]
   have d1 : w.cell? ⟨b, off + j * 4 + 1, none⟩ = some (.int .i64 (k + 4 * j + 1)) := by rw [h11 j hlt, (marksD_at k n j hlt).2.1]
   have d2 : w.cell? ⟨b, off + j * 4 + 2, none⟩ = some (.int .i64 (k + 4 * j + 1 + 1)) := by rw [h12 j hlt, (marksD_at k n j hlt).2.2.1]
   have d3 : w.cell? ⟨b, off + j * 4 + 3, none⟩ = some (.bool (mrk (k + 4 * j + 1 + 1 + 1))) := by rw [h13 j hlt, (marksD_at k n j hlt).2.2.2]
   clear h10 h11 h12 h13
   have hb0 : 0 ≤ k + 4 * (j : Int) := by omega
   have hb1 : k + 4 * (j : Int) ≤ 10000000000 := by omega
   by_cases hm : (k + 4 * (j : Int) + 1 + 1 + 1) % 3 = 0
   ·have hm2 : mrk (k + 4 * (j : Int) + 1 + 1 + 1) = true := by simp [mrk, hm]
    rw [hm2] at d3
    have hm3 : ((k + 4 * (j : Int) + 1 + 1 + 1) % 3 == 0) = true := hm2
    go_wp2
    go_round
    case rel => exact ⟨j + 1, by omega, by go_num, by go_num⟩
    case measure => simp [intOf]; omega
   ·have hm2 : mrk (k + 4 * (j : Int) + 1 + 1 + 1) = false := by simp [mrk, hm]
    rw [hm2] at d3
    have hm3 : ((k + 4 * (j : Int) + 1 + 1 + 1) % 3 == 0) = false := hm2
    go_wp2
    go_round
    case rel => exact ⟨j + 1, by omega, by go_num, by go_num⟩
    case measure => simp [intOf]; omega
  ·have hjl : j = n := by omega
   subst hjl
   go_wp2
   go_ret
   exact ⟨rfl, rfl⟩
end
end Go.Proofs.Ytmdajbbpigbdcaa
