/-
  The program's GetNum: a mistake is a panic that it recovers.
  The program's numsOfNode and PutNode.
  The model's PutNode.
-/
import Derived.Test.YtbmcojelgbkafaaDoorOfNodes35
import Derived.Test.YtbmcojelgbkafaaDoorOfNodes36
import Derived.Laws.Pointers
import Derived.Test.YtbmcojelgbkafaaDoorOfNodes32
import Derived.Test.YtbmcojelgbkafaaDoorOfNodes34
namespace Go.Proofs.YtbmcojelgbkafaaDoor
set_option maxRecDepth 100000
set_option maxHeartbeats 8000000
section
open Go.RowKit

def VarIs (w : World) (B : Nat) (v : Value) (t : TypeId) : Prop := w.heap[B]? = some (.cells #[v] t (0, 0))
theorem VarIs.cell {w : World} {B : Nat} {v : Value} {t : TypeId} (h : VarIs w B v t) : w.cell? ⟨B, 0, none⟩ = some v := by rw [cell_of_cells h]; rfl
theorem VarIs.live {w : World} {B : Nat} {v : Value} {t : TypeId} (h : VarIs w B v t) : w.frozen? ⟨B, 0, none⟩ = false := frozen_of_cells h
theorem VarIs.chg {F : Nat → Prop} {w w' : World} {B : Nat} {v : Value} {t : TypeId} (h : VarIs w B v t) (hc : Chg F w w') (hF : ¬ F B) : VarIs w' B v t := row_chg h hc hF
theorem VarIs.set {w : World} {B : Nat} {v : Value} {t : TypeId} (h : VarIs w B v t) (u : Value) : VarIs (w.setCell ⟨B, 0, none⟩ u) B u t := heap_setCell_same w B 0 _ _ _ h
theorem VarIs.setOther {w : World} {B C : Nat} {v : Value} {t : TypeId} (h : VarIs w B v t) (u : Value) (hne : C ≠ B) : VarIs (w.setCell ⟨C, 0, none⟩ u) B v t := by
 unfold VarIs at *
 rw [heap_setCell_other _ _ _ _ (fun e => hne (by simpa using e.symm))]; exact h
end
section
open Go.RowKit

theorem nodeOk_leaf {T : Tr} {ks : List Int} (h : kindN T = 1) : (nodeOkP T ks ↔ ks.length = 0 ∧ T.pairs.length ≤ 4) ∧ nodeNums T ks = leafNums T.pairs := by
 unfold kindN at h
 unfold nodeOkP nodeNums
 split at h
 ·rename_i hl
  rw [if_pos hl, if_pos hl]
  split at h
  ·rename_i h2; exact ⟨by omega, rfl⟩
  ·cases h
 ·split at h <;> cases h
theorem nodeOk_fork {T : Tr} {ks : List Int} (h : kindN T = 2) : (nodeOkP T ks ↔ ks.length = T.kids.length ∧ forkOk T ks) ∧ nodeNums T ks = forkNums T ks := by
 unfold kindN at h
 unfold nodeOkP nodeNums forkOk
 split at h
 ·split at h <;> cases h
 ·rename_i hl
  rw [if_neg hl, if_neg hl]
  split at h
  ·rename_i h2; exact ⟨by omega, rfl⟩
  ·cases h
theorem nodeOk_none {T : Tr} {ks : List Int} (h : kindN T = 0) : ¬ nodeOkP T ks := by
 unfold kindN at h
 unfold nodeOkP
 split at h
 ·rename_i hl
  rw [if_pos hl]
  split at h
  ·cases h
  ·rename_i h2; omega
 ·rename_i hl
  rw [if_neg hl]
  split at h
  ·cases h
  ·rename_i h2; omega
theorem kindN_in (T : Tr) : kindN T = 0 ∨ kindN T = 1 ∨ kindN T = 2 := by unfold kindN; split <;> split <;> simp

theorem numsOfNode_any (ea : Addr) (n : Nat) (x : TV) (T : Tr) (v : Value) (ks : List Int) (w : World) (ht : TreeAt n w x T) (hks : Row w v ks.length (flatI ks)) (he : ErrIs ea w) :
  Calls Tryd.prog 18 #[x.val, v] w fun e w' => Below w.heap.size w w' ∧ ((nodeOkP T ks ∧ ∃ v', e = .returned v' ∧ OwnI w.heap.size w' v' (nodeNums T ks)) ∨ (¬ nodeOkP T ks ∧ e = .panicked (boom ea))) := by
 obtain ⟨a1, a2, a3, a4, q1, q2, q3, q4, rfl⟩ := ht.shape
 have rp : Row w (.slice a1 T.pairs.length q1) T.pairs.length (flatP T.pairs) := by cases n with | zero => exact ht.elim | succ n => exact ht.2.1
 obtain ⟨ak, qk, hvk, hkm⟩ := hks.len
 subst hvk
 unfold maxLen at hkm
 show Calls Tryd.prog 18 #[.agg #[.bool T.leaf, .slice a1 T.pairs.length q1, .slice a2 T.cuts.length q2, .slice a3 T.kids.length q3, .slice a4 T.buf.length q4], .slice ak ks.length qk] w _
 have b0 : Below w.heap.size w (w.alloc (.cells #[.bool T.leaf, .slice a1 T.pairs.length q1, .slice a2 T.cuts.length q2, .slice a3 T.kids.length q3, .slice a4 T.buf.length q4] 29)) := bel_new w _
 have x0 := BoxAt.start 29 w #[.bool T.leaf, .slice a1 T.pairs.length q1, .slice a2 T.cuts.length q2, .slice a3 T.kids.length q3, .slice a4 T.buf.length q4]
 have hBW : w.heap.size < (w.alloc (.cells #[.bool T.leaf, .slice a1 T.pairs.length q1, .slice a2 T.cuts.length q2, .slice a3 T.kids.length q3, .slice a4 T.buf.length q4] 29)).heap.size := by simp
 have X0 : Hid _ := And.intro (ht.below b0) (And.intro (hks.below b0) (And.intro (he.below b0) (And.intro (rp.below b0) (And.intro b0 x0))))
 clear ht hks he rp b0
 generalize hW : w.alloc (.cells #[.bool T.leaf, .slice a1 T.pairs.length q1, .slice a2 T.cuts.length q2, .slice a3 T.kids.length q3, .slice a4 T.buf.length q4] 29) = W at X0 x0 hBW
 have EW : Hid (w.alloc (.cells #[.bool T.leaf, .slice a1 T.pairs.length q1, .slice a2 T.cuts.length q2, .slice a3 T.kids.length q3, .slice a4 T.buf.length q4] 29) = W) := hW
 clear hW
 have bx := x0.cells
 clear x0
 go_enter Tryd.func18, Tryd.ntmps18
 go_wp2_with fail
 rw [EW.out]
 refine (kindOf_any n ⟨T.leaf, .slice a1 T.pairs.length q1, .slice a2 T.cuts.length q2, .slice a3 T.kids.length q3, .slice a4 T.buf.length q4⟩ T W X0.out.1).mono ?_
 rintro e w1 ⟨rfl, b1⟩
 have bx1 := (Below.box X0.out.2.2.2.2.2 hBW b1).cells
 have B1 : Hid (Below w.heap.size w w1) := Below.and X0.out.2.2.2.2.1 b1
 have Y1 : Hid _ := And.intro (X0.out.1.below b1) (And.intro (X0.out.2.1.below b1) (And.intro (X0.out.2.2.1.below b1) (X0.out.2.2.2.1.below b1)))
 clear bx b1 EW X0
 rcases kindN_in T with hK | hK | hK
 ·have NO : Hid _ := nodeOk_none (ks := ks) hK
  have hcc : w1.cell? ⟨0, 0, none⟩ = some (.iface 114 (.pointer (some ea))) := Y1.out.2.2.1
  rw [hK]
  go_wp2
  exact ⟨rfl, B1.out, .inr ⟨NO.out, rfl⟩⟩
 ·have NO : Hid _ := nodeOk_leaf (ks := ks) hK
  rw [hK]
  by_cases h0 : ks.length = 0
  ·have hq : ((ks.length : Int) == 0) = true := by rw [beq_iff_eq]; omega
   have H0 : Hid _ := h0
   clear h0
   go_wp2_with fail
   refine (demand_yes (by first | rfl | exact hq) _).mono ?_
   rintro e w2 ⟨rfl, rfl⟩
   go_wp2_with fail
   refine (numsOfLeaf_any ea _ T.pairs _ Y1.out.2.2.2 Y1.out.2.2.1).mono ?_
   rintro e w3 ⟨b3, ⟨h4, v3, rfl, o3⟩ | ⟨h4, rfl⟩⟩
   ·have FIN : Hid _ := And.intro b3 o3
    clear b3 o3 bx1
    go_wp2
    go_ret
    exact ⟨Below.and B1.out FIN.out.1, .inl ⟨NO.out.1.2 ⟨H0.out, h4⟩, _, rfl, by rw [NO.out.2]; exact owns_mono FIN.out.2 B1.out.size⟩⟩
   ·have FIN : Hid _ := b3
    clear b3 bx1
    go_wp2
    exact ⟨rfl, Below.and B1.out FIN.out, .inr ⟨fun h => h4 (NO.out.1.1 h).2, rfl⟩⟩
  ·have hq : ((ks.length : Int) == 0) = false := by rw [beq_eq_false_iff_ne]; omega
   have H0 : Hid _ := h0
   clear h0
   go_wp2_with fail
   refine (demand_no (by first | rfl | exact hq) ea _ Y1.out.2.2.1).mono ?_
   rintro e w2 ⟨rfl, rfl⟩
   go_wp2
   exact ⟨rfl, B1.out, .inr ⟨fun h => H0.out (NO.out.1.1 h).1, rfl⟩⟩
 ·have NO : Hid _ := nodeOk_fork (ks := ks) hK
  rw [hK]
  by_cases h0 : ks.length = T.kids.length
  ·have hq : ((ks.length : Int) == (T.kids.length : Int)) = true := by rw [beq_iff_eq]; omega
   have H0 : Hid _ := h0
   clear h0
   go_wp2_with fail
   refine (demand_yes (by first | rfl | exact hq) _).mono ?_
   rintro e w2 ⟨rfl, rfl⟩
   go_wp2_with fail
   refine (numsOfFork_any ea n ⟨T.leaf, .slice a1 T.pairs.length q1, .slice a2 T.cuts.length q2, .slice a3 T.kids.length q3, .slice a4 T.buf.length q4⟩ T _ ks _ Y1.out.1 Y1.out.2.1 Y1.out.2.2.1).mono ?_
   rintro e w3 ⟨b3, ⟨h4, v3, rfl, o3⟩ | ⟨h4, rfl⟩⟩
   ·have FIN : Hid _ := And.intro b3 o3
    have H4 : Hid _ := h4
    clear b3 o3 bx1 h4
    go_wp2
    go_ret
    exact ⟨Below.and B1.out FIN.out.1, .inl ⟨NO.out.1.2 ⟨H0.out, H4.out⟩, _, rfl, by rw [NO.out.2]; exact owns_mono FIN.out.2 B1.out.size⟩⟩
   ·have FIN : Hid _ := b3
    have H4 : Hid _ := h4
    clear b3 bx1 h4
    go_wp2
    exact ⟨rfl, Below.and B1.out FIN.out, .inr ⟨fun h => H4.out (NO.out.1.1 h).2, rfl⟩⟩
  ·have hq : ((ks.length : Int) == (T.kids.length : Int)) = false := by rw [beq_eq_false_iff_ne]; omega
   have H0 : Hid _ := h0
   clear h0
   go_wp2_with fail
   refine (demand_no (by first | rfl | exact hq) ea _ Y1.out.2.2.1).mono ?_
   rintro e w2 ⟨rfl, rfl⟩
   go_wp2
   exact ⟨rfl, B1.out, .inr ⟨fun h => H0.out (NO.out.1.1 h).1, rfl⟩⟩

theorem putNode_catch (a b : Nat) (x : Value) (z : Bool) (ea : Addr) (w : World) (ha : VarIs w a x 22) (hx : x = .slice none 0 0) (hb : VarIs w b (.bool z) 4) (hab : a ≠ b) :
  CallsD Tryd.prog 16 #[.pointer (some ⟨a, 0, none⟩), .pointer (some ⟨b, 0, none⟩)] (.panicking (boom ea)) w fun e u' w' =>
   e = .returned (.tuple #[]) ∧ u' = .panicking [{ v := ErrV ea, recovered := true }] ∧ VarIs w' a (.slice none 0 0) 22 ∧ VarIs w' b (.bool false) 4 ∧ Chg (fun g => g = a ∨ g = b) w w' := by
 subst hx
 have e1 := ha.cell
 have f1 := ha.live
 have hb1 := hb.setOther (.slice none 0 0) hab
 have e2 := hb1.cell
 have f2 := hb1.live
 refine callsD_of_wpS Tryd.func16 rfl fun c₀ cs hu => ?_
 unfold boom ErrV at hu
 apply wpS_seq
 apply wpS_region
 simp [wpOpsS, go_sem, recoverD, hu, Tryd.ntmps16, Exit.thenS]
 refine wpS_cond (t := true) (by simp [Act.eval, Array.replicate]) ?_
 simp only [if_true]
 apply wpS_region
 simp [wpOpsS, go_sem, e1, f1, e2, f2, bodyPostS, results, Tryd.results16]
 exact ⟨rfl, (ha.set _).setOther _ hab.symm, hb1.set _, ((Chg.refl (fun g => g = a ∨ g = b) w).setAt a 0 (.inl rfl) _).setAt b 0 (.inr rfl) _⟩

theorem putNode_idle (p q : Value) (w : World) :
  CallsD Tryd.prog 16 #[p, q] .returning w fun e u' w' => e = .returned (.tuple #[]) ∧ u' = .returning ∧ w' = w := by
 refine callsD_of_wpS Tryd.func16 rfl fun c₀ cs hu => ?_
 apply wpS_seq
 apply wpS_region
 simp [wpOpsS, go_sem, recoverD, hu, Tryd.ntmps16, Exit.thenS]
 refine wpS_cond (t := false) (by simp [Act.eval, Array.replicate]) ?_
 simp only [Bool.false_eq_true, if_false]
 refine wpS_of_wp (wp_skip ?_)
 cases c₀
 simp_all [bodyPostS, results, Tryd.results16]

def PutPost (w : World) (g : Option (List Int)) (e : Ending) (w' : World) : Prop := ∃ v', (match g with
 | some bs => e = .returned (.tuple #[v', .bool true]) ∧ OwnB w.heap.size w' v' bs
 | none => e = .returned (.tuple #[v', .bool false]) ∧ OwnB w.heap.size w' v' [])

theorem implPutNode_any (ea : Addr) (n : Nat) (x : TV) (T : Tr) (v : Value) (ks : List Int) (w : World) (ht : TreeAt n w x T) (hks : Row w v ks.length (flatI ks)) (he : ErrIs ea w) :
  Calls Tryd.prog 6 #[x.val, v] w fun e w' => PutPost w (putNodeF T ks) e w' ∧ Below w.heap.size w w' := by
 have hmf : ∀ (fn : Fn) (first cap : Array Value) (w : World), (Instr.makeFunc fn first cap).run Tryd.prog w = .ok (.func fn first cap) w := fun _ _ _ _ => rfl
 obtain ⟨a1, a2, a3, a4, q1, q2, q3, q4, rfl⟩ := ht.shape
 obtain ⟨ak, qk, hvk, hkm⟩ := hks.len
 subst hvk
 unfold maxLen at hkm
 show Calls Tryd.prog 6 #[.agg #[.bool T.leaf, .slice a1 T.pairs.length q1, .slice a2 T.cuts.length q2, .slice a3 T.kids.length q3, .slice a4 T.buf.length q4], .slice ak ks.length qk] w _
 have b1 : Below w.heap.size w (w.alloc (.cells #[.bool T.leaf, .slice a1 T.pairs.length q1, .slice a2 T.cuts.length q2, .slice a3 T.kids.length q3, .slice a4 T.buf.length q4] 29)) := bel_new w _
 generalize hW1 : w.alloc (.cells #[.bool T.leaf, .slice a1 T.pairs.length q1, .slice a2 T.cuts.length q2, .slice a3 T.kids.length q3, .slice a4 T.buf.length q4] 29) = W1 at b1
 have s1 : W1.heap.size = w.heap.size + 1 := by rw [← hW1]; simp
 have b2 : Below W1.heap.size W1 (W1.alloc (.cells #[.slice none 0 0] 22)) := bel_new _ _
 have n2 : VarIs (W1.alloc (.cells #[.slice none 0 0] 22)) W1.heap.size (.slice none 0 0) 22 := heap_alloc_new _ _
 generalize hW2 : W1.alloc (.cells #[.slice none 0 0] 22) = W2 at b2 n2
 have s2 : W2.heap.size = W1.heap.size + 1 := by rw [← hW2]; simp
 have b3 : Below W2.heap.size W2 (W2.alloc (.cells #[.bool false] 4)) := bel_new _ _
 have n3 : VarIs (W2.alloc (.cells #[.bool false] 4)) W2.heap.size (.bool false) 4 := heap_alloc_new _ _
 generalize hW3 : W2.alloc (.cells #[.bool false] 4) = W3 at b3 n3
 have s3 : W3.heap.size = W2.heap.size + 1 := by rw [← hW3]; simp
 have E3 : Hid (((w.alloc (.cells #[.bool T.leaf, .slice a1 T.pairs.length q1, .slice a2 T.cuts.length q2, .slice a3 T.kids.length q3, .slice a4 T.buf.length q4] 29)).alloc (.cells #[.slice none 0 0] 22)).alloc (.cells #[.bool false] 4) = W3) := by
  show _ = _
  rw [hW1, hW2, hW3]
 rw [s1] at n2
 rw [s2, s1] at n3
 have B3 : Below w.heap.size w W3 := Below.and b1 (Below.and b2 b3)
 have x3 : VarIs W3 (w.heap.size + 1) (.slice none 0 0) 22 := n2.chg (Chg.of_below (F := fun _ => False) b3) id
 have hs3 : W3.heap.size = w.heap.size + 1 + 1 + 1 := by omega
 have HH : Hid _ := And.intro (ht.below B3) (And.intro (hks.below B3) (And.intro (he.below B3) (And.intro x3 (And.intro n3 (And.intro B3 hs3)))))
 clear b1 hW1 s1 b2 n2 hW2 s2 b3 n3 hW3 s3 B3 x3 hs3 ht hks he
 have hc0 : ((((w.alloc (.cells #[.bool T.leaf, .slice a1 T.pairs.length q1, .slice a2 T.cuts.length q2, .slice a3 T.kids.length q3, .slice a4 T.buf.length q4] 29)).alloc (.cells #[.slice none 0 0] 22)).alloc (.cells #[.bool false] 4)).heap[w.heap.size]?) = some (Obj.cells #[.bool T.leaf, .slice a1 T.pairs.length q1, .slice a2 T.cuts.length q2, .slice a3 T.kids.length q3, .slice a4 T.buf.length q4] 29 (0, 0)) := by
  rw [((Below.refl _ _).alloc (Nat.le_refl _) _ : Below ((w.alloc (.cells #[.bool T.leaf, .slice a1 T.pairs.length q1, .slice a2 T.cuts.length q2, .slice a3 T.kids.length q3, .slice a4 T.buf.length q4] 29)).alloc (.cells #[.slice none 0 0] 22)).heap.size _ _).block _ (by simp; omega), ((Below.refl _ _).alloc (Nat.le_refl _) _ : Below (w.alloc (.cells #[.bool T.leaf, .slice a1 T.pairs.length q1, .slice a2 T.cuts.length q2, .slice a3 T.kids.length q3, .slice a4 T.buf.length q4] 29)).heap.size _ _).block _ (by simp)]
  exact heap_alloc_new _ _
 have bx : BoxAt 29 W3 w.heap.size #[.bool T.leaf, .slice a1 T.pairs.length q1, .slice a2 T.cuts.length q2, .slice a3 T.kids.length q3, .slice a4 T.buf.length q4] := by rw [← E3.out]; exact hc0
 have BXH : Hid _ := bx
 clear hc0 bx
 go_enter_defers Tryd.func6, Tryd.ntmps6
 go_wp2_with fail
 rw [E3.out]
 obtain ⟨t3, k3, e3, x3, y3, B3, hs3⟩ := HH.out
 refine (numsOfNode_any ea n ⟨T.leaf, .slice a1 T.pairs.length q1, .slice a2 T.cuts.length q2, .slice a3 T.kids.length q3, .slice a4 T.buf.length q4⟩ T _ ks W3 t3 k3 e3).mono ?_
 rintro e w4 ⟨b4, ⟨hN, v4, rfl, o4⟩ | ⟨hN, rfl⟩⟩
 ·have x4 := x3.chg (Chg.of_below (F := fun _ => False) b4) id
  have y4 := y3.chg (Chg.of_below (F := fun _ => False) b4) id
  have B4 : Below w.heap.size w w4 := Below.and B3 b4
  have e4 := e3.below b4
  have hlen : (nodeNums T ks).length ≤ 40 := nodeNums_length hN
  have R4 := o4.row
  have hs4 : w.heap.size + 1 + 1 + 1 ≤ w4.heap.size := by have := b4.size; omega
  have HN : Hid _ := hN
  have HQ : Hid _ := And.intro x4 (And.intro y4 B4)
  clear t3 k3 e3 x3 y3 B3 b4 HH BXH E3 o4 hN x4 y4 B4 hs3
  go_wp2_with fail
  refine (formsOf_any ea _ (nodeNums T ks) _ R4 (by omega) e4).mono ?_
  rintro e w5 ⟨b5, ⟨hO, v5, rfl, o5⟩ | ⟨hO, rfl⟩⟩
  ·have G : Hid (putNodeF T ks = some (formsB (nodeNums T ks))) := by show _ = _; unfold putNodeF; rw [if_pos ⟨HN.out, hO⟩]
   have x5 := HQ.out.1.chg (Chg.of_below (F := fun _ => False) b5) id
   have y5 := HQ.out.2.1.chg (Chg.of_below (F := fun _ => False) b5) id
   have B5 : Below w.heap.size w w5 := Below.and HQ.out.2.2 b5
   generalize formsB (nodeNums T ks) = BB at *
   obtain ⟨a5, q5, rfl, _, _⟩ := owns_shape o5
   have c1 := x5.cell
   have f1 := x5.live
   have y6 := y5.setOther (.slice a5 BB.length q5) (C := w.heap.size + 1) (by omega)
   have c2 := y6.cell
   have f2 := y6.live
   have K : Hid _ := And.intro o5 (And.intro B5 b5.size)
   have x6 := (x5.set (.slice a5 BB.length q5)).setOther (.bool true) (C := w.heap.size + 1 + 1) (by omega)
   have y7 := y6.set (.bool true)
   have d1 := x6.cell
   have d2 := y7.cell
   have OF : Hid (OwnB w.heap.size ((w5.setCell ⟨w.heap.size + 1, 0, none⟩ (.slice a5 BB.length q5)).setCell ⟨w.heap.size + 1 + 1, 0, none⟩ (.bool true)) (.slice a5 BB.length q5) BB) := by
    refine owns_chg (owns_mono o5 (by omega)) (((Chg.refl (fun g => g = w.heap.size + 1 ∨ g = w.heap.size + 1 + 1) w5).setAt _ 0 (.inl rfl) _).setAt _ 0 (.inr rfl) _) (fun g hg => ?_)
    have := (o5.lt g hg).1
    omega
   have BF : Hid (Below w.heap.size w ((w5.setCell ⟨w.heap.size + 1, 0, none⟩ (.slice a5 BB.length q5)).setCell ⟨w.heap.size + 1 + 1, 0, none⟩ (.bool true))) := (B5.setCell (by simp only; omega) _).setCell (by simp only; omega) _
   clear x5 y5 B5 b5 o5 R4 e4 y6 x6 y7
   go_wp2
   refine leaves_cons (f := 16) (args := #[Value.pointer (some ⟨w.heap.size + 1, 0, none⟩), Value.pointer (some ⟨w.heap.size + 1 + 1, 0, none⟩)]) (by simp) (by simp [go_sem]) ?_
   refine (putNode_idle _ _ _).mono ?_
   rintro e u' w6 ⟨rfl, rfl, rfl⟩
   rw [G.out]
   simp [Leaves, settle, results, Tryd.results6, go_sem, d1, d2, PutPost]
   exact ⟨OF.out, BF.out⟩
  ·have G : Hid (putNodeF T ks = none) := by show _ = _; unfold putNodeF; rw [if_neg (fun h => hO h.2)]
   have x5 := HQ.out.1.chg (Chg.of_below (F := fun _ => False) b5) id
   have y5 := HQ.out.2.1.chg (Chg.of_below (F := fun _ => False) b5) id
   have B5 : Below w.heap.size w w5 := Below.and HQ.out.2.2 b5
   go_wp2
   refine leaves_cons (f := 16) (args := #[Value.pointer (some ⟨w.heap.size + 1, 0, none⟩), Value.pointer (some ⟨w.heap.size + 1 + 1, 0, none⟩)]) (by simp) (by simp [go_sem]) ?_
   refine (putNode_catch _ _ _ false ea _ x5 rfl y5 (by omega)).mono ?_
   rintro e u' w6 ⟨rfl, rfl, x6, y6, ch⟩
   have B6 : Below w.heap.size w w6 := B5.trans (ch.below (fun g _ hg => by omega) B5.size)
   rw [G.out]
   simp [Leaves, settle, results, Tryd.results6, go_sem, x6.cell, y6.cell, B6, PutPost]
   exact ⟨rfl, .inl ⟨rfl, rfl⟩⟩
 ·have x4 := x3.chg (Chg.of_below (F := fun _ => False) b4) id
  have y4 := y3.chg (Chg.of_below (F := fun _ => False) b4) id
  have B4 : Below w.heap.size w w4 := Below.and B3 b4
  have G : Hid (putNodeF T ks = none) := by show _ = _; unfold putNodeF; rw [if_neg (fun h => hN h.1)]
  clear t3 k3 e3 x3 y3 B3 b4 HH BXH E3
  go_wp2
  refine leaves_cons (f := 16) (args := #[Value.pointer (some ⟨w.heap.size + 1, 0, none⟩), Value.pointer (some ⟨w.heap.size + 1 + 1, 0, none⟩)]) (by simp) (by simp [go_sem]) ?_
  refine (putNode_catch _ _ _ false ea _ x4 rfl y4 (by omega)).mono ?_
  rintro e u' w6 ⟨rfl, rfl, x6, y6, ch⟩
  have B6 : Below w.heap.size w w6 := B4.trans (ch.below (fun g _ hg => by omega) B4.size)
  rw [G.out]
  simp [Leaves, settle, results, Tryd.results6, go_sem, x6.cell, y6.cell, B6, PutPost]
  exact ⟨rfl, .inl ⟨rfl, rfl⟩⟩
end
section
open Go.RowKit

theorem specPutNode_P (n : Nat) (a1 a2 a3 a4 : Option Addr) (q1 q2 q3 q4 : Nat) (T : Tr) (ak : Option Addr) (qk : Nat) (ks : List Int) (w : World) (hlf : T.leaf = true) (ht : TreeAt n w ⟨true, .slice a1 T.pairs.length q1, .slice a2 T.cuts.length q2, .slice a3 T.kids.length q3, .slice a4 T.buf.length q4⟩ T) (hks : Row w (.slice ak ks.length qk) ks.length (flatI ks)) (z1 : T.pairs.length ≤ 1099511627776) (z2 : T.cuts.length ≤ 1099511627776) (z3 : T.kids.length ≤ 1099511627776) (z4 : T.buf.length ≤ 1099511627776) (z5 : ks.length ≤ 1099511627776) :
  Calls Tryd.prog 7 #[.agg #[.bool true, .slice a1 T.pairs.length q1, .slice a2 T.cuts.length q2, .slice a3 T.kids.length q3, .slice a4 T.buf.length q4], .slice ak ks.length qk] w fun e w' => PutPost w (putNodeF T ks) e w' ∧ Below w.heap.size w w' := by
 have b0 : Below w.heap.size w (w.alloc (.cells #[.bool true, .slice a1 T.pairs.length q1, .slice a2 T.cuts.length q2, .slice a3 T.kids.length q3, .slice a4 T.buf.length q4] 29)) := bel_new w _
 have X0 : Hid _ := And.intro (ht.below b0) (And.intro (hks.below b0) trivial)
 have HB0 : Hid _ := b0
 have e0 : OwnB w.heap.size ((w.alloc (.cells #[.bool true, .slice a1 T.pairs.length q1, .slice a2 T.cuts.length q2, .slice a3 T.kids.length q3, .slice a4 T.buf.length q4] 29)).alloc (.cells #[] 5)) (.slice (some ⟨w.heap.size + 1, 0, none⟩) 0 0) [] := by
  have := empty_own (w.alloc (.cells #[.bool true, .slice a1 T.pairs.length q1, .slice a2 T.cuts.length q2, .slice a3 T.kids.length q3, .slice a4 T.buf.length q4] 29)) w.heap.size 5 1 (by simp)
  rw [show (w.alloc (.cells #[.bool true, .slice a1 T.pairs.length q1, .slice a2 T.cuts.length q2, .slice a3 T.kids.length q3, .slice a4 T.buf.length q4] 29)).heap.size = w.heap.size + 1 by simp] at this
  exact this
 have F0 : Hid (OwnB w.heap.size ((w.alloc (.cells #[.bool true, .slice a1 T.pairs.length q1, .slice a2 T.cuts.length q2, .slice a3 T.kids.length q3, .slice a4 T.buf.length q4] 29)).alloc (.cells #[] 5)) (.slice (some ⟨w.heap.size + 1, 0, none⟩) 0 0) [] ∧ Below w.heap.size w ((w.alloc (.cells #[.bool true, .slice a1 T.pairs.length q1, .slice a2 T.cuts.length q2, .slice a3 T.kids.length q3, .slice a4 T.buf.length q4] 29)).alloc (.cells #[] 5))) := ⟨e0, b0.alloc (by simp) _⟩
 have OKI : Hid (nodeOkP T ks ↔ ks.length = 0 ∧ T.cuts.length = 0 ∧ T.kids.length = 0 ∧ T.buf.length = 0 ∧ T.pairs.length ≤ 4) := by show _ ↔ _; unfold nodeOkP; rw [if_pos hlf]
 clear ht hks b0 e0 hlf
 generalize T.pairs.length = n1 at *
 generalize T.cuts.length = n2 at *
 generalize T.kids.length = n3 at *
 generalize T.buf.length = n4 at *
 generalize hnk : ks.length = nk at *
 have HNK : Hid _ := hnk
 clear hnk
 by_cases h1 : nk = 0
 ·subst h1
  by_cases h2 : n3 + n2 + n4 = 0
  ·obtain ⟨rfl, rfl, rfl⟩ : n3 = 0 ∧ n2 = 0 ∧ n4 = 0 := by omega
   by_cases h3 : n1 ≤ 4
   ·have d3 : (n1 : Int) ≤ 4 := by omega
    have HN : Hid _ := OKI.out.2 (by omega)
    clear h2 h3
    go_enter Tryd.func7, Tryd.ntmps7
    go_wp2_with fail
    refine (l5Node_any n ⟨true, .slice a1 n1 q1, .slice a2 0 q2, .slice a3 0 q3, .slice a4 0 q4⟩ T _ ks _ X0.out.1 (by rw [HNK.out]; exact X0.out.2.1) HN.out).mono ?_
    rintro e w1 ⟨b1, v1, rfl, o1⟩
    have R1 := o1.row
    have hl1 := nodeNums_length HN.out
    have B1 : Hid (Below w.heap.size w w1) := Below.and HB0.out b1
    clear o1 b1
    go_wp2_with fail
    refine (l5Nums_any _ (nodeNums T ks) _ R1 (by omega)).mono ?_
    rintro e w2 ⟨b2, v2, ⟨hO, rfl, o2⟩ | ⟨hO, rfl, o2⟩⟩
    ·have G : Hid (putNodeF T ks = some (formsB (nodeNums T ks))) := by show _ = _; unfold putNodeF; rw [if_pos ⟨HN.out, hO⟩]
     have FIN : Hid _ := And.intro o2 b2
     clear o2 b2 R1
     go_wp2
     refine bodyPost_ret (v := .tuple #[v2, .bool true]) (by simp [results, Tryd.results7, go_sem]) rfl ?_
     rw [G.out]
     exact ⟨⟨_, rfl, owns_mono FIN.out.1 B1.out.size⟩, Below.and B1.out FIN.out.2⟩
    ·have G : Hid (putNodeF T ks = none) := by show _ = _; unfold putNodeF; rw [if_neg (fun h => hO h.2)]
     have FIN : Hid _ := And.intro o2 b2
     clear o2 b2 R1
     go_wp2
     refine bodyPost_ret (v := .tuple #[v2, .bool false]) (by simp [results, Tryd.results7, go_sem]) rfl ?_
     rw [G.out]
     exact ⟨⟨_, rfl, owns_mono FIN.out.1 B1.out.size⟩, Below.and B1.out FIN.out.2⟩
   ·have d3 : 4 < (n1 : Int) := by omega
    have G : Hid (putNodeF T ks = none) := by show _ = _; unfold putNodeF; rw [if_neg (fun h => by have h := OKI.out.1 h.1; omega)]
    clear h2 h3
    go_enter Tryd.func7, Tryd.ntmps7
    go_wp2
    refine bodyPost_ret (v := .tuple #[.slice (some ⟨w.heap.size + 1, 0, none⟩) 0 0, .bool false]) (by simp [results, Tryd.results7, go_sem]) rfl ?_
    rw [G.out]
    exact ⟨⟨_, rfl, F0.out.1⟩, F0.out.2⟩
  ·have d2 : 0 < (n3 : Int) + (n2 : Int) + (n4 : Int) := by omega
   have G : Hid (putNodeF T ks = none) := by show _ = _; unfold putNodeF; rw [if_neg (fun h => by have h := OKI.out.1 h.1; omega)]
   clear h2
   go_enter Tryd.func7, Tryd.ntmps7
   go_wp2
   refine bodyPost_ret (v := .tuple #[.slice (some ⟨w.heap.size + 1, 0, none⟩) 0 0, .bool false]) (by simp [results, Tryd.results7, go_sem]) rfl ?_
   rw [G.out]
   exact ⟨⟨_, rfl, F0.out.1⟩, F0.out.2⟩
 ·have d1 : 0 < (nk : Int) := by omega
  have G : Hid (putNodeF T ks = none) := by show _ = _; unfold putNodeF; rw [if_neg (fun h => by have h := OKI.out.1 h.1; omega)]
  clear h1
  go_enter Tryd.func7, Tryd.ntmps7
  go_wp2
  refine bodyPost_ret (v := .tuple #[.slice (some ⟨w.heap.size + 1, 0, none⟩) 0 0, .bool false]) (by simp [results, Tryd.results7, go_sem]) rfl ?_
  rw [G.out]
  exact ⟨⟨_, rfl, F0.out.1⟩, F0.out.2⟩

theorem specPutNode_N (n : Nat) (a1 a2 a3 a4 : Option Addr) (q1 q2 q3 q4 : Nat) (T : Tr) (ak : Option Addr) (qk : Nat) (ks : List Int) (w : World) (hlf : T.leaf = false) (ht : TreeAt n w ⟨false, .slice a1 T.pairs.length q1, .slice a2 T.cuts.length q2, .slice a3 T.kids.length q3, .slice a4 T.buf.length q4⟩ T) (hks : Row w (.slice ak ks.length qk) ks.length (flatI ks)) (z1 : T.pairs.length ≤ 1099511627776) (z2 : T.cuts.length ≤ 1099511627776) (_z3 : T.kids.length ≤ 1099511627776) (z4 : T.buf.length ≤ 1099511627776) (z5 : ks.length ≤ 1099511627776) :
  Calls Tryd.prog 7 #[.agg #[.bool false, .slice a1 T.pairs.length q1, .slice a2 T.cuts.length q2, .slice a3 T.kids.length q3, .slice a4 T.buf.length q4], .slice ak ks.length qk] w fun e w' => PutPost w (putNodeF T ks) e w' ∧ Below w.heap.size w w' := by
 have b0 : Below w.heap.size w (w.alloc (.cells #[.bool false, .slice a1 T.pairs.length q1, .slice a2 T.cuts.length q2, .slice a3 T.kids.length q3, .slice a4 T.buf.length q4] 29)) := bel_new w _
 have X0 : Hid _ := And.intro (ht.below b0) (And.intro (hks.below b0) trivial)
 have HB0 : Hid _ := b0
 have e0 : OwnB w.heap.size ((w.alloc (.cells #[.bool false, .slice a1 T.pairs.length q1, .slice a2 T.cuts.length q2, .slice a3 T.kids.length q3, .slice a4 T.buf.length q4] 29)).alloc (.cells #[] 5)) (.slice (some ⟨w.heap.size + 1, 0, none⟩) 0 0) [] := by
  have := empty_own (w.alloc (.cells #[.bool false, .slice a1 T.pairs.length q1, .slice a2 T.cuts.length q2, .slice a3 T.kids.length q3, .slice a4 T.buf.length q4] 29)) w.heap.size 5 1 (by simp)
  rw [show (w.alloc (.cells #[.bool false, .slice a1 T.pairs.length q1, .slice a2 T.cuts.length q2, .slice a3 T.kids.length q3, .slice a4 T.buf.length q4] 29)).heap.size = w.heap.size + 1 by simp] at this
  exact this
 have F0 : Hid (OwnB w.heap.size ((w.alloc (.cells #[.bool false, .slice a1 T.pairs.length q1, .slice a2 T.cuts.length q2, .slice a3 T.kids.length q3, .slice a4 T.buf.length q4] 29)).alloc (.cells #[] 5)) (.slice (some ⟨w.heap.size + 1, 0, none⟩) 0 0) [] ∧ Below w.heap.size w ((w.alloc (.cells #[.bool false, .slice a1 T.pairs.length q1, .slice a2 T.cuts.length q2, .slice a3 T.kids.length q3, .slice a4 T.buf.length q4] 29)).alloc (.cells #[] 5))) := ⟨e0, b0.alloc (by simp) _⟩
 have OKI : Hid (nodeOkP T ks ↔ T.pairs.length = 0 ∧ ks.length = T.kids.length ∧ 1 ≤ ks.length ∧ ks.length ≤ 4 ∧ T.cuts.length + 1 = ks.length ∧ T.buf.length ≤ 6) := by show _ ↔ _; unfold nodeOkP; rw [if_neg (by rw [hlf]; decide)]
 clear ht hks b0 e0 hlf
 generalize T.pairs.length = n1 at *
 generalize T.cuts.length = n2 at *
 generalize T.kids.length = n3 at *
 generalize T.buf.length = n4 at *
 generalize hnk : ks.length = nk at *
 have HNK : Hid _ := hnk
 clear hnk
 by_cases h1 : nk = n3
 ·have d1 : ((nk : Int) != (n3 : Int)) = false := by rw [bne_eq_false_iff_eq]; omega
  by_cases h2 : ¬ nk = 0
  ·have d2 : ((nk : Int) == 0) = false := by rw [beq_eq_false_iff_ne]; omega
   by_cases h3 : nk ≤ 4
   ·have d3 : (nk : Int) ≤ 4 := by omega
    by_cases h4 : n2 + 1 = nk
    ·have d4 : ((n2 : Int) != (nk : Int) - 1) = false := by rw [bne_eq_false_iff_eq]; omega
     by_cases h5 : n1 = 0
     ·subst h5
      by_cases h6 : n4 ≤ 6
      ·have d6 : (n4 : Int) ≤ 6 := by omega
       have HN : Hid _ := OKI.out.2 (by omega)
       clear h1 h2 h3 h4 h6
       go_enter Tryd.func7, Tryd.ntmps7
       go_wp2_with fail
       refine (l5Node_any n ⟨false, .slice a1 0 q1, .slice a2 n2 q2, .slice a3 n3 q3, .slice a4 n4 q4⟩ T _ ks _ X0.out.1 (by rw [HNK.out]; exact X0.out.2.1) HN.out).mono ?_
       rintro e w1 ⟨b1, v1, rfl, o1⟩
       have R1 := o1.row
       have hl1 := nodeNums_length HN.out
       have B1 : Hid (Below w.heap.size w w1) := Below.and HB0.out b1
       clear o1 b1
       go_wp2_with fail
       refine (l5Nums_any _ (nodeNums T ks) _ R1 (by omega)).mono ?_
       rintro e w2 ⟨b2, v2, ⟨hO, rfl, o2⟩ | ⟨hO, rfl, o2⟩⟩
       ·have G : Hid (putNodeF T ks = some (formsB (nodeNums T ks))) := by show _ = _; unfold putNodeF; rw [if_pos ⟨HN.out, hO⟩]
        have FIN : Hid _ := And.intro o2 b2
        clear o2 b2 R1
        go_wp2
        refine bodyPost_ret (v := .tuple #[v2, .bool true]) (by simp [results, Tryd.results7, go_sem]) rfl ?_
        rw [G.out]
        exact ⟨⟨_, rfl, owns_mono FIN.out.1 B1.out.size⟩, Below.and B1.out FIN.out.2⟩
       ·have G : Hid (putNodeF T ks = none) := by show _ = _; unfold putNodeF; rw [if_neg (fun h => hO h.2)]
        have FIN : Hid _ := And.intro o2 b2
        clear o2 b2 R1
        go_wp2
        refine bodyPost_ret (v := .tuple #[v2, .bool false]) (by simp [results, Tryd.results7, go_sem]) rfl ?_
        rw [G.out]
        exact ⟨⟨_, rfl, owns_mono FIN.out.1 B1.out.size⟩, Below.and B1.out FIN.out.2⟩
      ·have d6 : 6 < (n4 : Int) := by omega
       have G : Hid (putNodeF T ks = none) := by show _ = _; unfold putNodeF; rw [if_neg (fun h => by have h := OKI.out.1 h.1; omega)]
       clear h1 h2 h3 h4 h6
       go_enter Tryd.func7, Tryd.ntmps7
       go_wp2
       refine bodyPost_ret (v := .tuple #[.slice (some ⟨w.heap.size + 1, 0, none⟩) 0 0, .bool false]) (by simp [results, Tryd.results7, go_sem]) rfl ?_
       rw [G.out]
       exact ⟨⟨_, rfl, F0.out.1⟩, F0.out.2⟩
     ·have d5 : 0 < (n1 : Int) := by omega
      have G : Hid (putNodeF T ks = none) := by show _ = _; unfold putNodeF; rw [if_neg (fun h => by have h := OKI.out.1 h.1; omega)]
      clear h1 h2 h3 h4 h5
      go_enter Tryd.func7, Tryd.ntmps7
      go_wp2
      refine bodyPost_ret (v := .tuple #[.slice (some ⟨w.heap.size + 1, 0, none⟩) 0 0, .bool false]) (by simp [results, Tryd.results7, go_sem]) rfl ?_
      rw [G.out]
      exact ⟨⟨_, rfl, F0.out.1⟩, F0.out.2⟩
    ·have d4 : ((n2 : Int) != (nk : Int) - 1) = true := by rw [bne_iff_ne]; omega
     have G : Hid (putNodeF T ks = none) := by show _ = _; unfold putNodeF; rw [if_neg (fun h => by have h := OKI.out.1 h.1; omega)]
     clear h1 h2 h3 h4
     go_enter Tryd.func7, Tryd.ntmps7
     go_wp2
     refine bodyPost_ret (v := .tuple #[.slice (some ⟨w.heap.size + 1, 0, none⟩) 0 0, .bool false]) (by simp [results, Tryd.results7, go_sem]) rfl ?_
     rw [G.out]
     exact ⟨⟨_, rfl, F0.out.1⟩, F0.out.2⟩
   ·have d3 : 4 < (nk : Int) := by omega
    have G : Hid (putNodeF T ks = none) := by show _ = _; unfold putNodeF; rw [if_neg (fun h => by have h := OKI.out.1 h.1; omega)]
    clear h1 h2 h3
    go_enter Tryd.func7, Tryd.ntmps7
    go_wp2
    refine bodyPost_ret (v := .tuple #[.slice (some ⟨w.heap.size + 1, 0, none⟩) 0 0, .bool false]) (by simp [results, Tryd.results7, go_sem]) rfl ?_
    rw [G.out]
    exact ⟨⟨_, rfl, F0.out.1⟩, F0.out.2⟩
  ·have d2 : ((nk : Int) == 0) = true := by rw [beq_iff_eq]; omega
   have G : Hid (putNodeF T ks = none) := by show _ = _; unfold putNodeF; rw [if_neg (fun h => by have h := OKI.out.1 h.1; omega)]
   clear h1 h2
   go_enter Tryd.func7, Tryd.ntmps7
   go_wp2
   refine bodyPost_ret (v := .tuple #[.slice (some ⟨w.heap.size + 1, 0, none⟩) 0 0, .bool false]) (by simp [results, Tryd.results7, go_sem]) rfl ?_
   rw [G.out]
   exact ⟨⟨_, rfl, F0.out.1⟩, F0.out.2⟩
 ·have d1 : ((nk : Int) != (n3 : Int)) = true := by rw [bne_iff_ne]; omega
  have G : Hid (putNodeF T ks = none) := by show _ = _; unfold putNodeF; rw [if_neg (fun h => by have h := OKI.out.1 h.1; omega)]
  clear h1
  go_enter Tryd.func7, Tryd.ntmps7
  go_wp2
  refine bodyPost_ret (v := .tuple #[.slice (some ⟨w.heap.size + 1, 0, none⟩) 0 0, .bool false]) (by simp [results, Tryd.results7, go_sem]) rfl ?_
  rw [G.out]
  exact ⟨⟨_, rfl, F0.out.1⟩, F0.out.2⟩

theorem specPutNode_any (n : Nat) (x : TV) (T : Tr) (v : Value) (ks : List Int) (w : World) (ht : TreeAt n w x T) (hks : Row w v ks.length (flatI ks)) (z1 : T.pairs.length ≤ 1099511627776) (z2 : T.cuts.length ≤ 1099511627776) (z3 : T.kids.length ≤ 1099511627776) (z4 : T.buf.length ≤ 1099511627776) (z5 : ks.length ≤ 1099511627776) :
  Calls Tryd.prog 7 #[x.val, v] w fun e w' => PutPost w (putNodeF T ks) e w' ∧ Below w.heap.size w w' := by
 obtain ⟨a1, a2, a3, a4, q1, q2, q3, q4, rfl⟩ := ht.shape
 obtain ⟨ak, qk, hvk, _⟩ := hks.len
 subst hvk
 cases hlf : T.leaf
 ·rw [hlf] at ht
  exact specPutNode_N n a1 a2 a3 a4 q1 q2 q3 q4 T ak qk ks w hlf ht hks z1 z2 z3 z4 z5
 ·rw [hlf] at ht
  exact specPutNode_P n a1 a2 a3 a4 q1 q2 q3 q4 T ak qk ks w hlf ht hks z1 z2 z3 z4 z5
end
end Go.Proofs.YtbmcojelgbkafaaDoor
