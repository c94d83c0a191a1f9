/-
  Copies of machines own their memory.
  New machines of both sides; a list that is made; a region whose operations come in whatever order, by states.
  Rows of structs: what lies at one place of such a row.
  Rows of structs, element by element: whole structs are read out of them and written into them.
  Marks that are written into a row of structs, and into what each of them leads to: where one stands between two writes.
-/
import Derived.Test.YtdcladffnjikkaaOfWn11
import Derived.Test.YtdcladffnjikkaaOfWn2
import Derived.Test.YtdcladffnjikkaaOfWn4
import Derived.OwnWalk
import Derived.Deep.RegionHeld3
import Derived.Test.YtdcladffnjikkaaOfWn1
import Derived.Deep.MidRow
import Derived.Test.YtdcladffnjikkaaOfWn7
namespace Go.Proofs.Ytdcladffnjikkaa
set_option maxRecDepth 100000
set_option maxHeartbeats 8000000
section
open Go.RowKit

theorem hid9c {p : Prop} (h : p) : Hid p := h
def MacD (n : Nat) (w : World) (F : Nat → Prop) (m : MacV) (T : Tr) (l : DL) : Prop := TreeD n w F m.x T ∧ OwnE w 0 78 4 m.v l.length (flatD l) ∧ ∀ g, wrB m.v g → F g
theorem MacD.mono {n : Nat} {w : World} {F G : Nat → Prop} {m : MacV} {T : Tr} {l : DL} (h : MacD n w F m T l) (hF : ∀ g, F g → G g) : MacD n w G m T l := ⟨h.1.mono hF, h.2.1, fun g hg => hF g (h.2.2 g hg)⟩
theorem MacD.chg {n : Nat} {w w' : World} {F P : Nat → Prop} {m : MacV} {T : Tr} {l : DL} (h : MacD n w F m T l) (hc : Chg P w w') (hd : ∀ g, F g → ¬ P g) : MacD n w' F m T l := ⟨h.1.chg hc hd, h.2.1.chg hc (fun g hg => hd g (h.2.2 g hg)), h.2.2⟩
theorem OwnE.sl {w : World} {base e size k : Nat} {v : Value} {xs : List Value} (h : OwnE w base e size v k xs) : ∃ x : Option Addr × Nat × Nat, v = .slice x.1 x.2.1 x.2.2 := by
 obtain ⟨a, cap, e⟩ := h.slice
 exact ⟨(a, k, cap), e⟩
theorem TreeD.sl {n : Nat} {w : World} {F : Nat → Prop} {x : TV} {T : Tr} (h : TreeD n w F x T) : ∃ (b : Bool) (x1 x2 x3 x4 : Option Addr × Nat × Nat), x = ⟨b, .slice x1.1 x1.2.1 x1.2.2, .slice x2.1 x2.2.1 x2.2.2, .slice x3.1 x3.2.1 x3.2.2, .slice x4.1 x4.2.1 x4.2.2⟩ := by
 obtain ⟨a1, a2, a3, a4, b1, b2, b3, b4, hy⟩ := h.treeF.treeAt.shape
 exact ⟨_, (a1, _, b1), (a2, _, b2), (a3, _, b3), (a4, _, b4), hy⟩
theorem flatD_one (l : DL) : ∀ y ∈ flatD l, y.oneCell' = true := by
 intro y hy
 simp only [flatD, List.mem_flatMap] at hy
 obtain ⟨p, _, hp⟩ := hy
 simp at hp
 rcases hp with rfl | rfl | rfl | rfl <;> rfl
theorem setSix {W : World} {R : Nat} {t : TypeId} {x0 x1 x2 x3 x4 x5 : Value} (a b c d e f : Value) (h : W.heap[R]? = some (.cells #[x0, x1, x2, x3, x4, x5] t (0, 0))) : ((((((W.setCell ⟨R, 0, none⟩ a).setCell ⟨R, 1, none⟩ b).setCell ⟨R, 2, none⟩ c).setCell ⟨R, 3, none⟩ d).setCell ⟨R, 4, none⟩ e).setCell ⟨R, 5, none⟩ f).heap[R]? = some (.cells #[a, b, c, d, e, f] t (0, 0)) ∧ Chg (fun g => g = R) W ((((((W.setCell ⟨R, 0, none⟩ a).setCell ⟨R, 1, none⟩ b).setCell ⟨R, 2, none⟩ c).setCell ⟨R, 3, none⟩ d).setCell ⟨R, 4, none⟩ e).setCell ⟨R, 5, none⟩ f) := by
 have h0 := heap_setCell_same W R 0 _ _ a h
 have h1 := heap_setCell_same _ R 1 _ _ b h0
 have h2 := heap_setCell_same _ R 2 _ _ c h1
 have h3 := heap_setCell_same _ R 3 _ _ d h2
 have h4 := heap_setCell_same _ R 4 _ _ e h3
 have h5 := heap_setCell_same _ R 5 _ _ f h4
 exact ⟨by simpa using h5, ((((((Chg.refl (fun g => g = R) W).setAt R 0 rfl a).setAt R 1 rfl b).setAt R 2 rfl c).setAt R 3 rfl d).setAt R 4 rfl e).setAt R 5 rfl f⟩

theorem run_cpT (args : Array Value) (w : World) : (callFunc 66 args).run Try.prog w = .ok (.enter 66 args) w := by go_simp
theorem run_clD (args : Array Value) (w : World) : (callFunc 67 args).run Try.prog w = .ok (.enter 67 args) w := by go_simp

theorem copyOfMachine_any (d : Bool) (n : Nat) (m : MacV) (T : Tr) (l : DL) (F : Nat → Prop) (w : World) (ht : Src d n w F m.x T) (hr : Row w m.v l.length (flatD l)) (hs : sizeT n T ≤ 1048576) (hd : d = false → sizeT n T ≤ 100000) (hl : l.length ≤ 1048576) :
  Calls Try.prog 56 #[m.val] w fun e w' => ∃ m' : MacV, e = .returned m'.val ∧ MacD n w' (fun g => w.heap.size ≤ g) m' T l ∧ Below w.heap.size w w' := by
 have C1 : Hid (∀ u, Below w.heap.size w u → Calls Try.prog 66 #[m.x.val] u fun e w' => ∃ y : TV, e = .returned y.val ∧ TreeD n w' (fun g => u.heap.size ≤ g) y T ∧ Below u.heap.size u w') := fun u hu => copyOfTree_any d n m.x T F u (ht.below hu) hs hd
 have C2 : Hid (∀ u, Below w.heap.size w u → Calls Try.prog 67 #[m.v] u fun e w' => ∃ v', e = .returned v' ∧ OwnE w' u.heap.size 78 4 v' l.length (flatD l) ∧ Below u.heap.size u w') := fun u hu => cloneD_any m.v l.length (flatD l) u (hr.below hu) (flatD_length l) (flatD_one l) (by omega)
 clear ht hr hs hd hl
 obtain ⟨⟨lf, p, c, k, b⟩, v⟩ := m
 have N1 := hid9c ((MBox.start 45 w #[.bool lf, p, c, k, b, v]).step (bel_nw _ (.cells #[.bool false, .slice none 0 0, .slice none 0 0, .slice none 0 0, .slice none 0 0, .slice none 0 0] 45)))
 have N2 : Hid (MBox 45 ((w.alloc (.cells #[.bool lf, p, c, k, b, v] 45)).alloc (.cells #[.bool false, .slice none 0 0, .slice none 0 0, .slice none 0 0, .slice none 0 0, .slice none 0 0] 45)) (w.heap.size + 1) #[.bool false, .slice none 0 0, .slice none 0 0, .slice none 0 0, .slice none 0 0, .slice none 0 0]) := by
  have := MBox.start 45 (w.alloc (.cells #[.bool lf, p, c, k, b, v] 45)) #[.bool false, .slice none 0 0, .slice none 0 0, .slice none 0 0, .slice none 0 0, .slice none 0 0]
  rw [World.size_alloc] at this
  exact this
 have B2 : Hid (Below w.heap.size w ((w.alloc (.cells #[.bool lf, p, c, k, b, v] 45)).alloc (.cells #[.bool false, .slice none 0 0, .slice none 0 0, .slice none 0 0, .slice none 0 0, .slice none 0 0] 45))) := Below.and (bel_nw _ _) (bel_nw _ _)
 have ZZ : Hid (((w.alloc (.cells #[.bool lf, p, c, k, b, v] 45)).alloc (.cells #[.bool false, .slice none 0 0, .slice none 0 0, .slice none 0 0, .slice none 0 0, .slice none 0 0] 45)).heap.size = w.heap.size + 2) := by show _ = _; simp
 show Calls Try.prog 56 #[.agg #[.bool lf, p, c, k, b, v]] w _
 go_enter Try.func56, Try.ntmps56
 go_wp2_with fail
 generalize ((w.alloc (.cells #[.bool lf, p, c, k, b, v] 45)).alloc (.cells #[.bool false, .slice none 0 0, .slice none 0 0, .slice none 0 0, .slice none 0 0, .slice none 0 0] 45)) = W at *
 have KEEP : Hid (∀ u, Below W.heap.size W u → (fun u => (∀ j, u.cell? ⟨w.heap.size, j, none⟩ = (#[.bool lf, p, c, k, b, v] : Array Value)[j]?)) u) := fun u hu => (N1.out.step hu).cells
 have SL : Hid (Below W.heap.size W W.drew) := (Below.refl _ _).drew
 refine wp_region_held_drew (S := (fun u => (∀ j, u.cell? ⟨w.heap.size, j, none⟩ = (#[.bool lf, p, c, k, b, v] : Array Value)[j]?))) (by kernel_rfl) (KEEP.out _ SL.out) (fun hH => ?_)
 refine wpAnyH_take (i := 0) (oi := ⟨_, _, _, _, _, _⟩) (v := ?_) rfl (by kernel_rfl) (by kernel_rfl) (by kernel_rfl) (fun _ _ _ h => h) (Or.inl ⟨by rfl, ?_⟩) (by assumption) ?_
 rotate_left
 ·((intro w hSw; (try dsimp only at hSw); go_simp); (try with_reducible rfl))
 try simp only [Act.put, List.setIfInBounds_toArray, List.set_cons_zero, List.set_cons_succ]
 refine wpAnyH_take (i := 1) (oi := ⟨_, _, _, _, _, _⟩) (v := ?_) rfl (by kernel_rfl) (by kernel_rfl) (by kernel_rfl) (fun _ _ _ h => h) (Or.inl ⟨by rfl, ?_⟩) (by assumption) ?_
 rotate_left
 ·((intro w hSw; (try dsimp only at hSw); go_simp); (try with_reducible rfl))
 try simp only [Act.put, List.setIfInBounds_toArray, List.set_cons_zero, List.set_cons_succ]
 refine wpAnyH_take (i := 3) (oi := ⟨_, _, _, _, _, _⟩) (v := ?_) rfl (by kernel_rfl) (by kernel_rfl) (by kernel_rfl) (fun _ _ _ h => h) (Or.inl ⟨by rfl, ?_⟩) (by assumption) ?_
 rotate_left
 ·((intro w hSw; (try dsimp only at hSw); go_simp); (try with_reducible rfl))
 try simp only [Act.put, List.setIfInBounds_toArray, List.set_cons_zero, List.set_cons_succ]
 refine wpAnyH_take (i := 4) (oi := ⟨_, _, _, _, _, _⟩) (v := ?_) rfl (by kernel_rfl) (by kernel_rfl) (by kernel_rfl) (fun _ _ _ h => h) (Or.inl ⟨by rfl, ?_⟩) (by assumption) ?_
 rotate_left
 ·((intro w hSw; (try dsimp only at hSw); go_simp); (try with_reducible rfl))
 try simp only [Act.put, List.setIfInBounds_toArray, List.set_cons_zero, List.set_cons_succ]
 refine wpAnyH_ready (rs := [2]) (by kernel_rfl) (by simp) ?_
 refine AllReadyH.cons (o := ⟨_, _, _, _, _, _⟩) rfl (fun K hK => ?_) AllReadyH.nil
 refine (if_pos (show Region.wanted _ _ = true by kernel_rfl)).mpr ?_
 refine call_by 66 [.tmp 4] #[43] rfl run_cpT _ rfl (C1.out _ (Below.and B2.out SL.out)) ?_
 rintro e u1 ⟨y, rfl, t1, b1⟩
 have T1 := hid9c (t1.mono (G := fun g => w.heap.size + 2 ≤ g) (fun g hg => by have h1 := SL.out.size; have h2 := ZZ.out; omega))
 obtain ⟨l1, x1, x2, x3, x4, hy⟩ := t1.sl
 subst hy
 replace SL := hid9c (Below.and SL.out b1)
 clear t1 b1
 refine ⟨_, rfl, ?_⟩
 refine hK.out _ _ (KEEP.out _ SL.out) (fun hH2 => ?_)
 clear hK K hH
 have hH := hH2
 clear hH2
 try simp only [Act.put, List.setIfInBounds_toArray, List.set_cons_zero, List.set_cons_succ]
 refine wpAnyH_ready (rs := [5]) (by kernel_rfl) (by simp) ?_
 refine AllReadyH.cons (o := ⟨_, _, _, _, _, _⟩) rfl (fun K hK => ?_) AllReadyH.nil
 refine (if_pos (show Region.wanted _ _ = true by kernel_rfl)).mpr ?_
 refine call_by 67 [.tmp 7] #[25] rfl run_clD _ rfl (C2.out _ (Below.and B2.out SL.out)) ?_
 rintro e u2 ⟨v5, rfl, o5, b5⟩
 have O5 := hid9c (o5.mono (base' := w.heap.size + 2) (by have h1 := SL.out.size; have h2 := ZZ.out; omega))
 obtain ⟨x5, hx⟩ := o5.sl
 subst hx
 replace SL := hid9c (Below.and SL.out b5)
 replace T1 := hid9c (T1.out.below b5)
 clear o5 b5
 refine ⟨_, rfl, ?_⟩
 refine hK.out _ _ (KEEP.out _ SL.out) (fun hH2 => ?_)
 clear hK K hH
 have hH := hH2
 clear hH2
 try simp only [Act.put, List.setIfInBounds_toArray, List.set_cons_zero, List.set_cons_succ]
 refine wpAnyH_take (i := 6) (oi := ⟨_, _, _, _, _, _⟩) (v := ?_) rfl (by kernel_rfl) (by kernel_rfl) (by kernel_rfl) (fun _ _ _ h => h) (Or.inl ⟨by rfl, ?_⟩) (by assumption) ?_
 rotate_left
 ·((intro w hSw; (try dsimp only at hSw); go_simp); (try with_reducible rfl))
 try simp only [Act.put, List.setIfInBounds_toArray, List.set_cons_zero, List.set_cons_succ]
 have M2 := N2.out.step SL.out
 have m0 : ∀ j, u2.cell? ⟨w.heap.size + 1, j, none⟩ = (#[.bool false, .slice none 0 0, .slice none 0 0, .slice none 0 0, .slice none 0 0, .slice none 0 0] : Array Value)[j]? := M2.cells
 have f0 : ∀ j, u2.frozen? ⟨w.heap.size + 1, j, none⟩ = false := fun j => frozen_of_cells M2
 have X := setSix (.bool l1) (.slice x1.1 x1.2.1 x1.2.2) (.slice x2.1 x2.2.1 x2.2.2) (.slice x3.1 x3.2.1 x3.2.2) (.slice x4.1 x4.2.1 x4.2.2) (.slice x5.1 x5.2.1 x5.2.2) M2
 have MD : MacD n u2 (fun g => w.heap.size + 2 ≤ g) ⟨⟨l1, .slice x1.1 x1.2.1 x1.2.2, .slice x2.1 x2.2.1 x2.2.2, .slice x3.1 x3.2.1 x3.2.2, .slice x4.1 x4.2.1 x4.2.2⟩, .slice x5.1 x5.2.1 x5.2.2⟩ T l := ⟨T1.out, O5.out.mono (Nat.zero_le _), fun g hg => (O5.out.lt g hg).1⟩
 have KS := hid9c (row_chg (N1.out.step SL.out) X.2 (by omega))
 have BB := Below.and B2.out SL.out
 have FIN := hid9c (And.intro X.1 (And.intro ((MD.chg X.2 (fun g hg => by omega)).mono (G := fun g => w.heap.size ≤ g) (fun g hg => by omega)) (BB.trans (X.2.below (fun g _ hg => by omega) BB.size))))
 clear M2 X MD BB
 refine wpAnyH_ready (rs := [7]) (by kernel_rfl) (by simp) ?_
 refine AllReadyH.cons (o := ⟨_, _, _, _, _, _⟩) rfl (fun K hK => ?_) AllReadyH.nil
 go_simp
 refine hK.out _ _ (fun j => cell_of_cells KS.out) (fun hH2 => ?_)
 clear hK K hH
 have hH := hH2
 clear hH2
 try simp only [Act.put, List.setIfInBounds_toArray, List.set_cons_zero, List.set_cons_succ]
 refine wpAnyH_done (by kernel_rfl) ?_ _
 clear hH m0 f0
 go_wp2_with fail
 simp [bodyPost, results, Try.results56, go_sem, cell_of_cells FIN.out.1]
 exact ⟨⟨⟨l1, .slice x1.1 x1.2.1 x1.2.2, .slice x2.1 x2.2.1 x2.2.2, .slice x3.1 x3.2.1 x3.2.2, .slice x4.1 x4.2.1 x4.2.2⟩, .slice x5.1 x5.2.1 x5.2.2⟩, by simp, FIN.out.2⟩
end
section
open Go.RowKit

abbrev emptyV : Value := .agg #[.bool true, .slice none 0 0, .slice none 0 0, .slice none 0 0, .slice none 0 0]
abbrev emptyM : Value := .agg #[.bool true, .slice none 0 0, .slice none 0 0, .slice none 0 0, .slice none 0 0, .slice none 0 0]
theorem specTreeNew0 (w : World) : Calls Try.prog 51 #[] w fun e w' => e = .returned emptyV ∧ Below w.heap.size w w' := by
 go_enter Try.func51, Try.ntmps51
 go_wp2
 refine bodyPost_ret (v := emptyV) (by simp [results, Try.results51, go_sem]) rfl ⟨rfl, bel_nw _ _⟩

theorem specMachineNew0 (w : World) : Calls Try.prog 28 #[] w fun e w' => e = .returned emptyM ∧ Below w.heap.size w w' := by
 have B0 : Hid (Below w.heap.size w (w.alloc (.cells #[.bool false, .slice none 0 0, .slice none 0 0, .slice none 0 0, .slice none 0 0, .slice none 0 0] 45))) := bel_nw w _
 have hn : (w.alloc (.cells #[.bool false, .slice none 0 0, .slice none 0 0, .slice none 0 0, .slice none 0 0, .slice none 0 0] 45)).heap[w.heap.size]? = some (.cells #[.bool false, .slice none 0 0, .slice none 0 0, .slice none 0 0, .slice none 0 0, .slice none 0 0] 45 (0, 0)) := heap_alloc_new w _
 have N0 : Hid ((w.alloc (.cells #[.bool false, .slice none 0 0, .slice none 0 0, .slice none 0 0, .slice none 0 0, .slice none 0 0] 45)).heap[w.heap.size]? = some (.cells #[.bool false, .slice none 0 0, .slice none 0 0, .slice none 0 0, .slice none 0 0, .slice none 0 0] 45 (0, 0))) := hn
 clear hn
 go_enter Try.func28, Try.ntmps28
 go_wp2_with fail
 generalize (w.alloc (.cells #[.bool false, .slice none 0 0, .slice none 0 0, .slice none 0 0, .slice none 0 0, .slice none 0 0] 45)) = W at *
 refine Calls.mono (specTreeNew0 _) ?_
 rintro e w1 ⟨rfl, b1⟩
 have hl := (Array.getElem?_eq_some_iff.1 N0.out).1
 have n1 := (b1.block _ hl).trans N0.out
 have B1 : Hid (Below w.heap.size w w1) := Below.and B0.out b1
 clear b1 N0 B0 hl
 have fz : ∀ j, w1.frozen? ⟨w.heap.size, j, none⟩ = false := fun j => frozen_of_cells n1
 have c0 : w1.cell? ⟨w.heap.size, 0, none⟩ = some (.bool false) := by rw [cell_of_cells n1]; rfl
 have c1 : w1.cell? ⟨w.heap.size, 1, none⟩ = some (.slice none 0 0) := by rw [cell_of_cells n1]; rfl
 have c2 : w1.cell? ⟨w.heap.size, 2, none⟩ = some (.slice none 0 0) := by rw [cell_of_cells n1]; rfl
 have c3 : w1.cell? ⟨w.heap.size, 3, none⟩ = some (.slice none 0 0) := by rw [cell_of_cells n1]; rfl
 have c4 : w1.cell? ⟨w.heap.size, 4, none⟩ = some (.slice none 0 0) := by rw [cell_of_cells n1]; rfl
 have c5 : w1.cell? ⟨w.heap.size, 5, none⟩ = some (.slice none 0 0) := by rw [cell_of_cells n1]; rfl
 have n2 := six_at (.bool true) (.slice none 0 0) (.slice none 0 0) (.slice none 0 0) (.slice none 0 0) (.slice none 0 0) n1
 have B2 : Hid _ := B1.out.trans ((six_chg w1 w.heap.size (.bool true) (.slice none 0 0) (.slice none 0 0) (.slice none 0 0) (.slice none 0 0) (.slice none 0 0)).below (fun g _ hg => by omega) B1.out.size)
 clear n1 B1
 go_wp2_with fail
 simp [bodyPost, results, Try.results28, go_sem, cell_of_cells n2]
 exact B2.out

theorem implTreeNew0 (w : World) : Calls Try.prog 55 #[] w fun e w' => e = .returned emptyV ∧ Below w.heap.size w w' := by
 go_enter Try.func55, Try.ntmps55
 go_wp2
 refine bodyPost_ret (v := emptyV) (by simp [results, Try.results55, go_sem]) rfl ⟨rfl, bel_nw _ _⟩

theorem implMachineNew0 (w : World) : Calls Try.prog 32 #[] w fun e w' => e = .returned emptyM ∧ Below w.heap.size w w' := by
 have B0 : Hid (Below w.heap.size w (w.alloc (.cells #[.bool false, .slice none 0 0, .slice none 0 0, .slice none 0 0, .slice none 0 0, .slice none 0 0] 45))) := bel_nw w _
 have hn : (w.alloc (.cells #[.bool false, .slice none 0 0, .slice none 0 0, .slice none 0 0, .slice none 0 0, .slice none 0 0] 45)).heap[w.heap.size]? = some (.cells #[.bool false, .slice none 0 0, .slice none 0 0, .slice none 0 0, .slice none 0 0, .slice none 0 0] 45 (0, 0)) := heap_alloc_new w _
 have N0 : Hid ((w.alloc (.cells #[.bool false, .slice none 0 0, .slice none 0 0, .slice none 0 0, .slice none 0 0, .slice none 0 0] 45)).heap[w.heap.size]? = some (.cells #[.bool false, .slice none 0 0, .slice none 0 0, .slice none 0 0, .slice none 0 0, .slice none 0 0] 45 (0, 0))) := hn
 clear hn
 go_enter Try.func32, Try.ntmps32
 go_wp2_with fail
 generalize (w.alloc (.cells #[.bool false, .slice none 0 0, .slice none 0 0, .slice none 0 0, .slice none 0 0, .slice none 0 0] 45)) = W at *
 refine Calls.mono (implTreeNew0 _) ?_
 rintro e w1 ⟨rfl, b1⟩
 have hl := (Array.getElem?_eq_some_iff.1 N0.out).1
 have n1 := (b1.block _ hl).trans N0.out
 have B1 : Hid (Below w.heap.size w w1) := Below.and B0.out b1
 clear b1 N0 B0 hl
 have fz : ∀ j, w1.frozen? ⟨w.heap.size, j, none⟩ = false := fun j => frozen_of_cells n1
 have c0 : w1.cell? ⟨w.heap.size, 0, none⟩ = some (.bool false) := by rw [cell_of_cells n1]; rfl
 have c1 : w1.cell? ⟨w.heap.size, 1, none⟩ = some (.slice none 0 0) := by rw [cell_of_cells n1]; rfl
 have c2 : w1.cell? ⟨w.heap.size, 2, none⟩ = some (.slice none 0 0) := by rw [cell_of_cells n1]; rfl
 have c3 : w1.cell? ⟨w.heap.size, 3, none⟩ = some (.slice none 0 0) := by rw [cell_of_cells n1]; rfl
 have c4 : w1.cell? ⟨w.heap.size, 4, none⟩ = some (.slice none 0 0) := by rw [cell_of_cells n1]; rfl
 have c5 : w1.cell? ⟨w.heap.size, 5, none⟩ = some (.slice none 0 0) := by rw [cell_of_cells n1]; rfl
 have n2 := six_at (.bool true) (.slice none 0 0) (.slice none 0 0) (.slice none 0 0) (.slice none 0 0) (.slice none 0 0) n1
 have B2 : Hid _ := B1.out.trans ((six_chg w1 w.heap.size (.bool true) (.slice none 0 0) (.slice none 0 0) (.slice none 0 0) (.slice none 0 0) (.slice none 0 0)).below (fun g _ hg => by omega) B1.out.size)
 clear n1 B1
 go_wp2_with fail
 simp [bodyPost, results, Try.results32, go_sem, cell_of_cells n2]
 exact B2.out

def nwT : Tr := ⟨true, [], [], [], []⟩
def eM : MacV := ⟨⟨true, .slice none 0 0, .slice none 0 0, .slice none 0 0, .slice none 0 0⟩, .slice none 0 0⟩
def zT : Tr := ⟨false, [], [], [], []⟩
def zM : MacV := ⟨⟨false, .slice none 0 0, .slice none 0 0, .slice none 0 0, .slice none 0 0⟩, .slice none 0 0⟩
theorem wrB_none {g n c : Nat} (h : wrB (.slice none n c) g) : False := by
 obtain ⟨k, c, e, _⟩ := h
 cases e
theorem nM_own (b : Bool) (n : Nat) (w : World) (F : Nat → Prop) : MacD (n + 1) w F ⟨⟨b, .slice none 0 0, .slice none 0 0, .slice none 0 0, .slice none 0 0⟩, .slice none 0 0⟩ ⟨b, [], [], [], []⟩ [] := by
 refine ⟨⟨rfl, OwnE.nil _ _ _ _, OwnE.nil _ _ _ _, OwnE.nil _ _ _ _, fun g hg => ?_, [], fun _ _ => False, rfl, OwnE.nil _ _ _ _, fun i hi => ?_, fun i g hi => ?_, fun i j g _ hj => ?_⟩, OwnE.nil _ _ _ _, fun g hg => (wrB_none hg).elim⟩
 ·rcases hg with hg | hg | hg | hg <;> exact (wrB_none hg).elim
 ·simp at hi
 ·simp at hi
 ·simp at hj
theorem wp_make {P : Program} {w : World} {o : Oper} {a : Act} {K : Act → World → Prop} {Q : Exit → Act → World → Prop}
  (l c : Operand) (t : TypeId) (hop : o.op = Op.makeSlice t l c)
  (base : Nat) (e : TypeId) (i : TypeInfo) (z : Value) (size : Nat) (h1 : P.underlying t = some (.slice e)) (h2 : P.info? e = some i) (h3 : i.zero = some z) (h4 : i.size = size)
  (n : Nat) (hl : a.eval l = .int .i64 (n : Int)) (hc : a.eval c = .int .i64 (n : Int)) (b2 : i.bytes * n ≤ 281474976710656) (b3 : n ≤ maxLen) (b4 : base ≤ w.heap.size)
  (hK : ∀ w', w'.ownsRow base e size (.slice (some ⟨w.heap.size, 0, none⟩) n n) n (madeCells z.cells (n * size)).toList → w.grownBy w' none → K (a.put o.dst (.slice (some ⟨w.heap.size, 0, none⟩) n n)) w') : o.wp P a w K Q := by
 obtain ⟨w', hrun, r1, r2⟩ := run_make_full (P := P) w base t e i z size h1 h2 h3 h4 .i64 .i64 n b2 b3 b4
 unfold Oper.wp
 simp [execOp, hop, hl, hc, hrun, Result.andThen]
 exact hK w' r1 r2

def cnt5 (a b c d e : Bool) : Nat := (if a then 0 else 1) + (if b then 0 else 1) + (if c then 0 else 1) + (if d then 0 else 1) + (if e then 0 else 1)
theorem rec5 {P : Program} {md : Region.Mode} {ops : Array Oper} {Q : Exit → Act → World → Prop} {S : World → Prop}
  (Inv : Bool → Bool → Bool → Bool → Bool → Nat → Nat → Nat → Nat → World → Prop) (lst : Bool → Bool → Bool → Bool → Bool → Array Bool) (act : Bool → Bool → Bool → Bool → Bool → Nat → Nat → Nat → Nat → Act) (lstF : Array Bool) (actF : Nat → Nat → Nat → Nat → Act)
  (fin : ∀ x y z b W, Inv true true true true true x y z b W → wpAnyH P md ops Q S 1 lstF (actF x y z b) W)
  (base : (∀ x y z b W, Inv true true true true true x y z b W → wpAnyH P md ops Q S 1 lstF (actF x y z b) W) → ∀ x y z b W, Inv true true true true true x y z b W → wpAnyH P md ops Q S 2 (lst true true true true true) (act true true true true true x y z b) W)
  (step : (∀ x y z b W, Inv true true true true true x y z b W → wpAnyH P md ops Q S 1 lstF (actF x y z b) W) → ∀ N, (∀ b1 b2 b3 b4 b5 x y z b W, cnt5 b1 b2 b3 b4 b5 = N → Inv b1 b2 b3 b4 b5 x y z b W → wpAnyH P md ops Q S (N + 2) (lst b1 b2 b3 b4 b5) (act b1 b2 b3 b4 b5 x y z b) W) →
   ∀ b1 b2 b3 b4 b5 x y z b W, cnt5 b1 b2 b3 b4 b5 = N + 1 → Inv b1 b2 b3 b4 b5 x y z b W → wpAnyH P md ops Q S (N + 1 + 2) (lst b1 b2 b3 b4 b5) (act b1 b2 b3 b4 b5 x y z b) W) :
  ∀ b1 b2 b3 b4 b5 x y z b W, Inv b1 b2 b3 b4 b5 x y z b W → wpAnyH P md ops Q S (cnt5 b1 b2 b3 b4 b5 + 2) (lst b1 b2 b3 b4 b5) (act b1 b2 b3 b4 b5 x y z b) W := by
 have all : ∀ N b1 b2 b3 b4 b5 x y z b W, cnt5 b1 b2 b3 b4 b5 = N → Inv b1 b2 b3 b4 b5 x y z b W → wpAnyH P md ops Q S (N + 2) (lst b1 b2 b3 b4 b5) (act b1 b2 b3 b4 b5 x y z b) W := by
  intro N
  induction N with
  | zero =>
   intro b1 b2 b3 b4 b5 x y z b W h0 hI
   cases b1 <;> cases b2 <;> cases b3 <;> cases b4 <;> cases b5 <;> first | exact base fin x y z b W hI | (simp [cnt5] at h0)
  | succ N ih => exact step fin N ih
 intro b1 b2 b3 b4 b5 x y z b W hI
 exact all _ b1 b2 b3 b4 b5 x y z b W rfl hI
end
section
open Go.RowKit
end
section
open Go.RowKit

theorem hq {p : Prop} (h : p) : Hid p := h
def AllK (K : Nat) (ls : List (List Value)) : Prop := ∀ l ∈ ls, l.length = K
theorem AllK.at {K : Nat} : ∀ {ls : List (List Value)}, AllK K ls → ∀ (i : Nat) (h : i < ls.length) (j : Nat), j < K → ls.flatten[i * K + j]? = (ls[i])[j]?
 | [], _, i, h, _, _ => by simp at h
 | a :: l, hk, 0, _, j, hj => by
  rw [Nat.zero_mul, Nat.zero_add, List.flatten_cons, List.getElem?_append_left (by rw [hk a (by simp)]; exact hj)]
  rfl
 | a :: l, hk, i + 1, h, j, hj => by
  rw [List.flatten_cons, List.getElem?_append_right (by rw [hk a (by simp), Nat.succ_mul]; omega), hk a (by simp), show (i + 1) * K + j - K = i * K + j by rw [Nat.succ_mul]; omega]
  exact AllK.at (fun x hx => hk x (by simp [hx])) i (by simpa using h) j hj
theorem Row.rangeL {w : World} {v : Value} {ls : List (List Value)} {K : Nat} (hk : AllK K ls) (h : Row w v ls.length ls.flatten) :
  ∃ (a : Option Addr) (b off cap : Nat), v = .slice a ls.length cap ∧ ls.length ≤ cap ∧ cap ≤ maxLen ∧ (0 < ls.length → a = some ⟨b, off, none⟩) ∧ ∀ u, Below w.heap.size w u → ∀ (i : Nat) (hi : i < ls.length), u.rangeAt b (off + i * K) ls[i] := by
 obtain ⟨a, b, off, cap, h1, h2, h3, h4, h5, h6⟩ := h
 refine ⟨a, b, off, cap, h1, h2, h3, h4, fun u hu i hi j x hx => ?_⟩
 have hj : j < K := by
  have := (List.getElem?_eq_some_iff.1 hx).1
  rwa [hk _ (List.getElem_mem hi)] at this
 have e := h5 (i * K + j) x ((hk.at i hi j hj).trans hx)
 rw [Nat.add_assoc]
 exact (hu.cell (cell_lt e)).trans e
end
section
open Go.RowKit

theorem AllK.set1 {K : Nat} : ∀ {ls : List (List Value)}, AllK K ls → ∀ (i : Nat) (h : i < ls.length) (q : Nat), q < K → ∀ (v : Value), ls.flatten.set (i * K + q) v = (ls.set i (ls[i].set q v)).flatten
 | [], _, i, h, _, _, _ => by simp at h
 | a :: l, hk, 0, _, q, hq, v => by
  have ha := hk a (by simp)
  rw [Nat.zero_mul, Nat.zero_add, List.flatten_cons, List.set_append_left _ _ (by rw [ha]; exact hq)]
  rfl
 | a :: l, hk, i + 1, h, q, hq, v => by
  have ha := hk a (by simp)
  rw [List.flatten_cons, List.set_append_right _ _ (by rw [ha, Nat.succ_mul]; omega), ha, show (i + 1) * K + q - K = i * K + q by rw [Nat.succ_mul]; omega]
  have ih := AllK.set1 (K := K) (ls := l) (fun x hx => hk x (by simp [hx])) i (by simpa using h) q hq v
  rw [ih]
  rfl
def rowH (fin cs : Nat → List Value) (c : List Value) (m j : Nat) : List (List Value) := (List.range m).map fun i => if i < j then fin i else if i = j then c else cs i
theorem rowH_len (fin cs : Nat → List Value) (c : List Value) (m j : Nat) : (rowH fin cs c m j).length = m := by simp [rowH]
theorem rowH_all {fin cs : Nat → List Value} {c : List Value} {m j K : Nat} (h1 : ∀ i, (fin i).length = K) (h2 : ∀ i, (cs i).length = K) (h3 : c.length = K) : AllK K (rowH fin cs c m j) := fun l hl => by
 obtain ⟨i, _, rfl⟩ := List.mem_map.1 hl
 split
 ·exact h1 i
 ·split
  ·exact h3
  ·exact h2 i
theorem rowH_at {fin cs : Nat → List Value} {c : List Value} {m j : Nat} (h : j < (rowH fin cs c m j).length) : (rowH fin cs c m j)[j] = c := by simp [rowH]
theorem rowH_set {fin cs : Nat → List Value} {c d : List Value} {m j : Nat} : (rowH fin cs c m j).set j d = rowH fin cs d m j := by
 apply List.ext_getElem
 ·simp [rowH]
 ·intro i h1 h2
  rw [List.getElem_set]
  split
  ·subst_vars; simp [rowH]
  ·rename_i h
   simp only [rowH, List.getElem_map, List.getElem_range]
   rw [if_neg (Ne.symm h), if_neg (Ne.symm h)]
theorem rowH_next {fin cs : Nat → List Value} {m j : Nat} : rowH fin cs (fin j) m j = rowH fin cs (cs (j + 1)) m (j + 1) := by
 apply List.map_congr_left
 intro i _
 by_cases h1 : i < j
 ·rw [if_pos h1, if_pos (by omega)]
 ·by_cases h2 : i = j
  ·subst h2; rw [if_neg h1, if_pos rfl, if_pos (by omega)]
  ·rw [if_neg h1, if_neg h2, if_neg (by omega)]
   split
   ·subst_vars; rfl
   ·rfl
theorem rowH_start {fin cs : Nat → List Value} {m : Nat} : rowH fin cs (cs 0) m 0 = (List.range m).map cs := by
 apply List.map_congr_left
 intro i _
 rw [if_neg (by omega)]
 split
 ·subst_vars; rfl
 ·rfl
theorem rowH_end {fin cs : Nat → List Value} {c : List Value} {m : Nat} : rowH fin cs c m m = (List.range m).map fin := by
 apply List.map_congr_left
 intro i hi
 rw [if_pos (List.mem_range.1 hi)]

structure Fam (F : Nat → Nat → Nat → Prop) (P Q : Nat → Nat → World → Prop) (g m : Nat) : Prop where
 dis : ∀ i r i' r' b, i < m → i' < m → F i r b → F i' r' b → i = i' ∧ r = r'
 off : ∀ i r b, i < m → F i r b → b ≠ g
 kP : ∀ i r (S : Nat → Prop) w w', i < m → P i r w → Chg S w w' → (∀ b, F i r b → ¬ S b) → P i r w'
 kQ : ∀ i r (S : Nat → Prop) w w', i < m → Q i r w → Chg S w w' → (∀ b, F i r b → ¬ S b) → Q i r w'
structure StM (F : Nat → Nat → Nat → Prop) (P Q : Nat → Nat → World → Prop) (fin cs : Nat → List Value) (ty K g m cap : Nat) (w0 : World) (j s : Nat) (c : List Value) (W : World) : Prop where
 own : W.ownsRow 0 ty K (.slice (some ⟨g, 0, none⟩) m cap) m (rowH fin cs c m j).flatten
 len : c.length = K
 done : ∀ i r, i < m → (i < j ∨ (i = j ∧ r < s)) → Q i r W
 rest : ∀ i r, i < m → ¬ (i < j ∨ (i = j ∧ r < s)) → P i r W
 chg : Chg (fun b => b = g ∨ ∃ i r, i < m ∧ F i r b) w0 W

section
variable {F : Nat → Nat → Nat → Prop} {P Q : Nat → Nat → World → Prop} {fin cs : Nat → List Value} {ty K g m cap : Nat} {w0 : World} {j s : Nat} {c : List Value} {W W' : World}

theorem StM.cell (h : StM F P Q fin cs ty K g m cap w0 j s c W) (hf : (∀ i, (fin i).length = K) ∧ ∀ i, (cs i).length = K) (hj : j < m) (q : Nat) (hq : q < K) : W.cell? ⟨g, j * K + q, none⟩ = c[q]? := by
 have hle : j * K + K ≤ m * K := by rw [← Nat.succ_mul]; exact Nat.mul_le_mul_right _ hj
 rw [h.own.cellAt (j * K + q) (by omega), (rowH_all hf.1 hf.2 h.len).at j (by rw [rowH_len]; exact hj) q hq, rowH_at]
theorem StM.frozen (h : StM F P Q fin cs ty K g m cap w0 j s c W) (q : Nat) : W.frozen? ⟨g, j * K + q, none⟩ = false := h.own.frozenAt _
theorem StM.put (fam : Fam F P Q g m) (h : StM F P Q fin cs ty K g m cap w0 j s c W) (hf : (∀ i, (fin i).length = K) ∧ ∀ i, (cs i).length = K) (hj : j < m) (q : Nat) (hq : q < K) (v : Value) : StM F P Q fin cs ty K g m cap w0 j s (c.set q v) (W.setCell ⟨g, j * K + q, none⟩ v) := by
 have hc : Chg (fun b => b = g) W (W.setCell ⟨g, j * K + q, none⟩ v) := (Chg.refl (fun b => b = g) W).setAt g (j * K + q) rfl _
 have ho := (h.own.stored (j * K + q) v).1
 rw [(rowH_all hf.1 hf.2 h.len).set1 j (by rw [rowH_len]; exact hj) q hq v, rowH_at, rowH_set] at ho
 exact ⟨ho, by rw [List.length_set]; exact h.len, fun i r hi hd => fam.kQ i r _ _ _ hi (h.done i r hi hd) hc (fun b hb e => fam.off i r b hi hb e), fun i r hi hd => fam.kP i r _ _ _ hi (h.rest i r hi hd) hc (fun b hb e => fam.off i r b hi hb e), h.chg.trans hc (fun b _ e => .inl e)⟩
theorem StM.now (h : StM F P Q fin cs ty K g m cap w0 j s c W) (hj : j < m) : P j s W := h.rest j s hj (by omega)
theorem StM.call (fam : Fam F P Q g m) (h : StM F P Q fin cs ty K g m cap w0 j s c W) (hj : j < m) (hq : Q j s W') (hc : Chg (F j s) W W') : StM F P Q fin cs ty K g m cap w0 j (s + 1) c W' := by
 refine ⟨?_, h.len, fun i r hi hd => ?_, fun i r hi hd => ?_, h.chg.trans hc (fun b _ e => .inr ⟨j, s, hj, e⟩)⟩
 ·exact owns_chg h.own hc (fun b hb e => fam.off j s b hj e (by simp [Value.ownBlock] at hb; exact hb.symm))
 ·by_cases h1 : i < j ∨ (i = j ∧ r < s)
  ·exact fam.kQ i r _ _ _ hi (h.done i r hi h1) hc (fun b hb e => by
    have := fam.dis i r j s b hi hj hb e
    omega)
  ·have h2 : i = j ∧ r = s := by omega
   rw [h2.1, h2.2]
   exact hq
 ·exact fam.kP i r _ _ _ hi (h.rest i r hi (by omega)) hc (fun b hb e => by
   have := fam.dis i r j s b hi hj hb e
   omega)
theorem StM.next (h : StM F P Q fin cs ty K g m cap w0 j s c W) (hc : c = fin j) (hl : (cs (j + 1)).length = K) (hs : ∀ i r W, s ≤ r → i < m → Q i r W) : StM F P Q fin cs ty K g m cap w0 (j + 1) 0 (cs (j + 1)) W := by
 subst hc
 exact ⟨by rw [← rowH_next]; exact h.own, hl, fun i r hi hd => by
  by_cases h1 : i < j ∨ (i = j ∧ r < s)
  ·exact h.done i r hi h1
  ·exact hs i r W (by omega) hi, fun i r hi hd => h.rest i r hi (by omega), h.chg⟩
end
end
end Go.Proofs.Ytdcladffnjikkaa
