/-
  The contract of the model's Shrink.
  The contract of the model's l4Give, at a leaf.
-/
import Derived.Test.YtbmcojelgbkafaaDoorOfNodes18
import Derived.Deep.RegionWith
import Derived.Test.YtbmcojelgbkafaaDoorOfNodes17
import Derived.Test.YtbmcojelgbkafaaDoorOfNodes8
namespace Go.Proofs.YtbmcojelgbkafaaDoor
set_option maxRecDepth 100000
set_option maxHeartbeats 8000000
section
open Go.RowKit

theorem flatM_set2 (l : ML) (c : Int) : ∀ i, i < l.length → (flatM l).set (i * 3 + 2) (.int .i64 c) = flatM (l.set i (mO l i, mK l i, c)) := by
 intro i hi
 rw [← flatM_set l (mO l i) (mK l i) c i hi]
 have h := flatM_at l i hi
 have e0 : (flatM l).set (i * 3) (.int .i64 (mO l i)) = flatM l := by
  apply List.ext_getElem?
  intro j
  by_cases hj : j = i * 3
  ·subst hj; rw [List.getElem?_set_self (List.getElem?_eq_some_iff.1 h.1).1, h.1]
  ·rw [List.getElem?_set_ne (fun e => hj e.symm)]
 have e1 : (flatM l).set (i * 3 + 1) (.int .i64 (mK l i)) = flatM l := by
  apply List.ext_getElem?
  intro j
  by_cases hj : j = i * 3 + 1
  ·subst hj; rw [List.getElem?_set_self (List.getElem?_eq_some_iff.1 h.2.1).1, h.2.1]
  ·rw [List.getElem?_set_ne (fun e => hj e.symm)]
 rw [e0, e1]

theorem kept_step (ms : ML) (k : Nat) (h : k < ms.length) : keptF (ms.drop k) = if msgOkB (mO ms k) (mK ms k) (mV ms k) = true ∧ mO ms k ≠ 4 ∧ overB (ms.drop (k + 1)) (mK ms k) = false then (mO ms k, mK ms k, mV ms k) :: keptF (ms.drop (k + 1)) else keptF (ms.drop (k + 1)) := by
 rw [drop_consM ms k h, keptF]; rfl

theorem specShrink_any (vm : Value) (ms : ML) (w : World) (hm : Row w vm ms.length (flatM ms)) (hn : ms.length ≤ 2097152) :
  Calls Tryd.prog 64 #[vm] w fun e w' => ∃ v', e = .returned v' ∧ w'.ownsRow w.heap.size 54 3 v' (shrinkF ms).length (flatM (shrinkF ms)) ∧ Below w.heap.size w w' := by
 obtain ⟨i0, hi, hz0, hz1, hz2⟩ := info_parts Tryd.info54
 have RM : Hid (Row w vm ms.length (flatM ms)) := hm
 obtain ⟨a, b, off, cap, rfl, hcap, hmax, ha, ho, hk, hv⟩ := hm.msgs
 unfold maxLen at hmax
 have START : Hid ((w.alloc (.cells #[] 54)).ownsRow w.heap.size 54 3 (.slice (some ⟨w.heap.size, 0, none⟩) 0 0) 0 []) := empty_own w w.heap.size 54 3 (Nat.le_refl _)
 clear hm
 go_enter Tryd.func64, Tryd.ntmps64
 go_wp2
 go_loopw [3, 4] (fun out i wr => ∃ (k : Nat) (A : ML), k ≤ ms.length ∧ i = .int .i64 k ∧ A.length ≤ k ∧ Hid ((keptF (ms.drop k)).foldl stepS A = shrinkF ms) ∧ Hid (∀ m ∈ A, okN m) ∧ Hid (wr.ownsRow w.heap.size 54 3 out A.length (flatM A)) ∧ Hid (Below w.heap.size w wr))
  (fun _ i _ => ms.length - (intOf i).toNat)
 case atStart => exact ⟨0, [], Nat.zero_le _, rfl, Nat.le_refl _, rfl, fun m hm => by simp at hm, START, (Below.refl _ _).alloc (Nat.le_refl _) _⟩
 case round =>
  obtain ⟨k, A, hkl, rfl, hAl, hfold, hok, hown, hb⟩ := hrel
  clear START
  by_cases hlt : k < ms.length
  ·have hal := ha (by omega)
   subst hal
   have d0 := (hb.out.cell (by exact cell_lt (ho k hlt))).trans (ho k hlt)
   have d1 := (hb.out.cell (by exact cell_lt (hk k hlt))).trans (hk k hlt)
   have d2 := (hb.out.cell (by exact cell_lt (hv k hlt))).trans (hv k hlt)
   have KS : Hid _ := kept_step ms k hlt
   have hov := l1Over_any (.slice (some ⟨b, off, none⟩) ms.length cap) ms k hlt
   have OV : Hid _ := hov
   clear hov ho hk hv
   have MAL : Hid _ := heap_alloc_new wr (.cells #[.int .i64 (mO ms k), .int .i64 (mK ms k), .int .i64 (mV ms k)] 54)
   have BAL : Hid (Below w.heap.size w (wr.alloc (.cells #[.int .i64 (mO ms k), .int .i64 (mK ms k), .int .i64 (mV ms k)] 54))) := hb.out.alloc hb.out.size _
   have OAL : Hid _ := hown.out.alloc (.cells #[.int .i64 (mO ms k), .int .i64 (mK ms k), .int .i64 (mV ms k)] 54)
   have NGE : Hid (∀ g, u3.ownBlock = some g → g < wr.heap.size) := fun g hg => (hown.out.lt g hg).2
   generalize mO ms k = x0 at *
   generalize mK ms k = x1 at *
   generalize mV ms k = x2 at *
   clear hown hb
   go_wp2_with fail
   refine (specMsgOk_any x0 x1 x2 _).mono ?_
   rintro e w1 ⟨rfl, b1⟩
   have B1 : Hid (Below w.heap.size w w1) := Below.and BAL.out b1
   have O1 : Hid (w1.ownsRow w.heap.size 54 3 u3 A.length (flatM A)) := owns_below OAL.out b1
   have M1 : Hid (w1.heap[wr.heap.size]? = some (.cells #[.int .i64 x0, .int .i64 x1, .int .i64 x2] 54 (0, 0))) := by
    show _ = _
    rw [b1.block _ (by simp)]; exact MAL.out
   obtain ⟨⟨m0, m1, m2⟩, _⟩ := at3 M1.out
   clear d0 d1 d2 b1 BAL OAL MAL
   cases hq : msgOkB x0 x1 x2
   ·have NX : Hid _ := KS.out.trans (if_neg (by rw [hq]; simp))
    go_wp2
    go_roundw
    case rel => exact ⟨k + 1, A, by omega, by go_num, by omega, by rw [NX.out] at hfold; exact hfold, hok, O1, B1⟩
    case measure => simp [intOf]; omega
   ·by_cases h4 : x0 = 4
    ·have NX : Hid _ := KS.out.trans (if_neg (by simp [h4]))
     have e4 : (x0 == 4) = true := by simp [h4]
     clear h4
     go_wp2
     go_roundw
     case rel => exact ⟨k + 1, A, by omega, by go_num, by omega, by rw [NX.out] at hfold; exact hfold, hok, O1, B1⟩
     case measure => simp [intOf]; omega
    ·have e4 : (x0 == 4) = false := by rw [beq_eq_false_iff_ne]; exact h4
     go_wp2_with fail
     refine (OV.out _ (RM.out.below B1.out)).mono ?_
     rintro e w2 ⟨rfl, b2⟩
     have B2 : Hid (Below w.heap.size w w2) := Below.and B1.out b2
     have O2 : Hid (w2.ownsRow w.heap.size 54 3 u3 A.length (flatM A)) := owns_below O1.out b2
     have M2 : Hid (w2.heap[wr.heap.size]? = some (.cells #[.int .i64 x0, .int .i64 x1, .int .i64 x2] 54 (0, 0))) := by
      show _ = _
      rw [b2.block _ (Array.getElem?_eq_some_iff.1 M1.out).1]; exact M1.out
     obtain ⟨⟨p0, p1, p2⟩, _⟩ := at3 M2.out
     clear b2 m0 m1 m2 M1 O1 B1
     cases hov : overB (ms.drop (k + 1)) x1
     ·have NX : Hid _ := KS.out.trans (if_pos ⟨hq, h4, hov⟩)
      go_wp2_with fail
      refine (l1First_any u3 A x1 _ (Row.of_owns O2.out)).mono ?_
      rintro e w3 ⟨rfl, hw3⟩
      subst hw3
      have OKN : Hid (okN (x0, x1, x2)) := ⟨hq, h4⟩
      rcases firstI_spec A x1 with ⟨hf, _⟩ | ⟨n, hf, hnl, hkn, _⟩
      ·have hj : joinsB A (x0, x1, x2) = false := by simp [joinsB, hf]
       rw [hf]
       have NJ : Hid (stepS A (x0, x1, x2) = A ++ [(x0, x1, x2)]) := by show stepS _ _ = _; rw [stepS, hj]; rfl
       have H1 : Hid (∀ u ∈ [Value.int .i64 x0, .int .i64 x1, .int .i64 x2], u.oneCell' = true) := fun u hu => by simp at hu; rcases hu with rfl | rfl | rfl <;> rfl
       have HR : Hid _ := room_of (n := A.length) (bytes := 24) (by omega) (by decide)
       have hbs : w.heap.size ≤ w3.heap.size := B2.out.size
       have OW := O2.out
       clear hj
       go_wp2_with (at_builtin; refine app_one w3 rfl _ _ 27 rfl w.heap.size 54 i0 _ 3 24 Tryd.underlying27 hi hz0 hz1 hz2 rfl (by decide) (u3) _ _ rfl OW [.int .i64 x0, .int .i64 x1, .int .i64 x2] rfl rfl H1.out HR.out.1 HR.out.2 hbs ?_)
       intro v4 w4 ho4 _ hb4
       have FIN : Hid _ := And.intro ho4 (B2.out.trans hb4)
       clear ho4 hb4 OW
       go_wp2
       go_roundw
       case rel => exact ⟨k + 1, A ++ [(x0, x1, x2)], by omega, by go_num, by simp; omega, by rw [NX.out, List.foldl_cons, NJ.out] at hfold; exact hfold, fun m hm => by rcases List.mem_append.1 hm with h | h; exact hok.out m h; simp at h; subst h; exact OKN.out, by rw [flatM_append, List.length_append]; exact FIN.out.1, FIN.out.2⟩
       case measure => simp [intOf]; omega
      ·have hex : ∃ g cap', u3 = .slice (some ⟨g, 0, none⟩) A.length cap' ∧ cap' ≤ maxLen ∧ A.length ≤ cap' := by
        obtain ⟨_, ⟨_, e⟩ | ⟨g, cap', cur, e, _, _, h1, h2, _⟩⟩ := O2.out
        ·omega
        ·exact ⟨g, cap', e, h2, h1⟩
       obtain ⟨g, cap', rfl, hcap', hcap2⟩ := hex
       unfold maxLen at hcap'
       have c0 := (O2.out.cellAt (n * 3) (by omega)).trans (flatM_at A n hnl).1
       have c1 := (O2.out.cellAt (n * 3 + 1) (by omega)).trans (flatM_at A n hnl).2.1
       have c2 := (O2.out.cellAt (n * 3 + 2) (by omega)).trans (flatM_at A n hnl).2.2
       have hnl2 : (n : Int) < A.length := by omega
       rw [hf]
       rcases (show (mO A n == 1) = false ∨ ((mO A n == 1) = true ∧ (x0 == 3) = false) ∨ ((mO A n == 1) = true ∧ (x0 == 3) = true) from by cases (mO A n == 1) <;> cases (x0 == 3) <;> simp) with q1 | ⟨q1, q2⟩ | ⟨q1, q2⟩
       ·have hj : joinsB A (x0, x1, x2) = false := by simp [joinsB, hf, q1]
        have NJ : Hid (stepS A (x0, x1, x2) = A ++ [(x0, x1, x2)]) := by show stepS _ _ = _; rw [stepS, hj]; rfl
        have H1 : Hid (∀ u ∈ [Value.int .i64 x0, .int .i64 x1, .int .i64 x2], u.oneCell' = true) := fun u hu => by simp at hu; rcases hu with rfl | rfl | rfl <;> rfl
        have HR : Hid _ := room_of (n := A.length) (bytes := 24) (by omega) (by decide)
        have hbs : w.heap.size ≤ w3.heap.size := B2.out.size
        have OW := O2.out
        clear hj
        go_wp2_with (at_builtin; refine app_one w3 rfl _ _ 27 rfl w.heap.size 54 i0 _ 3 24 Tryd.underlying27 hi hz0 hz1 hz2 rfl (by decide) (.slice (some ⟨g, 0, none⟩) A.length cap') _ _ rfl OW [.int .i64 x0, .int .i64 x1, .int .i64 x2] rfl rfl H1.out HR.out.1 HR.out.2 hbs ?_)
        intro v4 w4 ho4 _ hb4
        have FIN : Hid _ := And.intro ho4 (B2.out.trans hb4)
        clear ho4 hb4 OW
        go_wp2
        go_roundw
        case rel => exact ⟨k + 1, A ++ [(x0, x1, x2)], by omega, by go_num, by simp; omega, by rw [NX.out, List.foldl_cons, NJ.out] at hfold; exact hfold, fun m hm => by rcases List.mem_append.1 hm with h | h; exact hok.out m h; simp at h; subst h; exact OKN.out, by rw [flatM_append, List.length_append]; exact FIN.out.1, FIN.out.2⟩
        case measure => simp [intOf]; omega
       ·have hj : joinsB A (x0, x1, x2) = false := by simp [joinsB, hf, q2]
        have NJ : Hid (stepS A (x0, x1, x2) = A ++ [(x0, x1, x2)]) := by show stepS _ _ = _; rw [stepS, hj]; rfl
        have H1 : Hid (∀ u ∈ [Value.int .i64 x0, .int .i64 x1, .int .i64 x2], u.oneCell' = true) := fun u hu => by simp at hu; rcases hu with rfl | rfl | rfl <;> rfl
        have HR : Hid _ := room_of (n := A.length) (bytes := 24) (by omega) (by decide)
        have hbs : w.heap.size ≤ w3.heap.size := B2.out.size
        have OW := O2.out
        clear hj
        go_wp2_with (at_builtin; refine app_one w3 rfl _ _ 27 rfl w.heap.size 54 i0 _ 3 24 Tryd.underlying27 hi hz0 hz1 hz2 rfl (by decide) (.slice (some ⟨g, 0, none⟩) A.length cap') _ _ rfl OW [.int .i64 x0, .int .i64 x1, .int .i64 x2] rfl rfl H1.out HR.out.1 HR.out.2 hbs ?_)
        intro v4 w4 ho4 _ hb4
        have FIN : Hid _ := And.intro ho4 (B2.out.trans hb4)
        clear ho4 hb4 OW
        go_wp2
        go_roundw
        case rel => exact ⟨k + 1, A ++ [(x0, x1, x2)], by omega, by go_num, by simp; omega, by rw [NX.out, List.foldl_cons, NJ.out] at hfold; exact hfold, fun m hm => by rcases List.mem_append.1 hm with h | h; exact hok.out m h; simp at h; subst h; exact OKN.out, by rw [flatM_append, List.length_append]; exact FIN.out.1, FIN.out.2⟩
        case measure => simp [intOf]; omega
       ·have hj : joinsB A (x0, x1, x2) = true := by simp [joinsB, hf, q1, q2]
        have YJ : Hid (stepS A (x0, x1, x2) = A.set n (mO A n, mK A n, clampI (mV A n + x2))) := by show stepS _ _ = _; rw [stepS, hj, if_pos rfl, hf]; rfl
        have OKS : Hid (∀ m ∈ A.set n (mO A n, mK A n, clampI (mV A n + x2)), okN m) := by
         rw [← YJ.out]; exact stepS_ok hok.out OKN.out
        have hAn : -1000000000 ≤ mV A n ∧ mV A n ≤ 1000000000 := (msgOkB_in (hok.out _ (mem_mO hnl)).1).2.2
        have hxn := (msgOkB_in hq).2.2
        have hw : IntKind.i64.wrap (mV A n + x2) = mV A n + x2 := wrap_small _ (by omega) (by omega)
        have f2 := O2.out.frozenAt (n * 3 + 2)
        have st := (O2.out.stored (n * 3 + 2) (.int .i64 (clampI (mV A n + x2)))).1
        rw [flatM_set2 A _ n hnl] at st
        have FIN : Hid _ := And.intro st (B2.out.setCell (p := ⟨g, n * 3 + 2, none⟩) ((O2.out.lt g rfl).1) (.int .i64 (clampI (mV A n + x2))))
        clear st hj hAn hxn
        go_wp2_with fail
        go_region_with (first | (go_at_call 73; refine (l1Clamp_any _ _).mono ?_; rintro e w' ⟨rfl, rfl⟩))
        all_goals
         go_wp2
         go_roundw
         case rel => exact ⟨k + 1, A.set n (mO A n, mK A n, clampI (mV A n + x2)), by omega, by go_num, by simp; omega, by rw [NX.out, List.foldl_cons, YJ.out] at hfold; exact hfold, OKS, by rw [List.length_set]; exact owns_below FIN.out.1 (Below.refl _ _).drew, FIN.out.2.drew⟩
         case measure => simp [intOf]; omega
     ·have NX : Hid _ := KS.out.trans (if_neg (by rw [hov]; simp))
      go_wp2
      go_roundw
      case rel => exact ⟨k + 1, A, by omega, by go_num, by omega, by rw [NX.out] at hfold; exact hfold, hok, O2, B2⟩
      case measure => simp [intOf]; omega
  ·have hkk : k = ms.length := by omega
   subst hkk
   have E : A = shrinkF ms := by have := hfold.out; rw [List.drop_length] at this; exact this
   subst E
   go_wp2
   go_ret
   exact ⟨_, rfl, hown.out, hb.out⟩
end
section
open Go.RowKit

theorem give_leaf (n : Nat) (F : Nat → Prop) (x : TV) (T : Tr) (vm : Value) (ms : ML) (w : World) (ht : TreeF (n + 1) w F x T) (hm : Row w vm ms.length (flatM ms)) (hl : T.leaf = true) (hn : T.pairs.length + ms.length ≤ 1000004) :
  Calls Tryd.prog 56 #[x.val, vm] w fun e w' => ∃ v1 v2, e = .returned (.agg #[v1, v2]) ∧ TreesF 1 w' (fun b => F b ∨ w.heap.size ≤ b) v1 (leafM (allL T.pairs ms)).1 ∧ RowF w' (fun b => F b ∨ w.heap.size ≤ b) v2 (leafM (allL T.pairs ms)).2.length (flatI (leafM (allL T.pairs ms)).2) ∧ Below w.heap.size w w' := by
 obtain ⟨_, hp, _, _, _⟩ := ht.parts
 obtain ⟨a1, a2, a3, a4, q1, q2, q3, q4, hx⟩ := ht.treeAt.shape
 subst hx
 simp only at hp
 rw [hl] at *
 have RP := hid (hp.row)
 have RM := hid (hm)
 obtain ⟨am, qm, hvm, _⟩ := hm.len
 subst hvm
 have hal := allL_length T.pairs ms
 have HA := hid (fun w1 (hb : Below w.heap.size w w1) => specMapAll_any _ _ T.pairs ms w1 (RP.out.below hb) (RM.out.below hb) (by omega))
 clear ht hp hm RP RM
 generalize T.cuts.length = n2 at *
 generalize T.kids.length = n3 at *
 generalize T.buf.length = n4 at *
 generalize hA : allL T.pairs ms = A at *
 generalize T.pairs.length = n1 at *
 generalize hnm : ms.length = nm at *
 have B0 : Hid (Below w.heap.size w ((w.alloc (.cells #[.bool true, .slice a1 n1 q1, .slice a2 n2 q2, .slice a3 n3 q3, .slice a4 n4 q4] 29)).alloc (.cells #[.slice none 0 0, .slice none 0 0] 89))) := al2 _ _ _
 have S0 : Hid (OneAt ((w.alloc (.cells #[.bool true, .slice a1 n1 q1, .slice a2 n2 q2, .slice a3 n3 q3, .slice a4 n4 q4] 29)).alloc (.cells #[.slice none 0 0, .slice none 0 0] 89)) w.heap.size #[.bool true, .slice a1 n1 q1, .slice a2 n2 q2, .slice a3 n3 q3, .slice a4 n4 q4]) := (OneAt.start w _).step (al1 _ _)
 have X1 : Hid (BoxM ((w.alloc (.cells #[.bool true, .slice a1 n1 q1, .slice a2 n2 q2, .slice a3 n3 q3, .slice a4 n4 q4] 29)).alloc (.cells #[.slice none 0 0, .slice none 0 0] 89)) (w.heap.size + 1) #[.slice none 0 0, .slice none 0 0]) := by
  have := BoxM.start (w.alloc (.cells #[.bool true, .slice a1 n1 q1, .slice a2 n2 q2, .slice a3 n3 q3, .slice a4 n4 q4] 29)) #[.slice none 0 0, .slice none 0 0]
  rw [World.size_alloc] at this
  exact this
 have HA1 : Hid _ := HA.out _ B0.out
 show Calls Tryd.prog 56 #[.agg #[.bool true, .slice a1 n1 q1, .slice a2 n2 q2, .slice a3 n3 q3, .slice a4 n4 q4], .slice am nm qm] w _
 obtain ⟨k0, k1, k2, k3, k4⟩ := box_cells5 S0.out
 go_enter Tryd.func56, Tryd.ntmps56
 go_wp2_with fail
 refine Calls.mono HA1.out ?_
 rintro e w1 ⟨v1, rfl, o1, hb1⟩
 have B1 : Hid (Below w.heap.size w w1) := Below.and B0.out hb1
 have X1' := hid (X1.out.step hb1 X1.out.lt)
 have Z1 : Hid (w.heap.size + 2 ≤ w1.heap.size) := by
  have := hb1.size
  simp at this
  exact this
 have N1 : Hid (∀ g, v1.ownBlock = some g → w.heap.size + 2 ≤ g ∧ g < w1.heap.size) := fun g hg => by
  have := o1.lt g hg
  simp at this
  exact this
 have HL : Hid _ := l4Leaf_any (fun g => v1.ownBlock = some g) v1 A w1 (RowF.of_owns o1) (by omega)
 clear HA HA1 o1 hb1 B0 S0 X1 k0 k1 k2 k3 k4
 go_wp2_with fail
 refine Calls.mono HL.out ?_
 rintro e w2 ⟨u1, u2, rfl, T2, R2, hb2⟩
 obtain ⟨ax, qx, hu1, _⟩ := (show Row w2 u1 (leafM A).1.length _ from (T2.els.choose_spec.2).row).len
 obtain ⟨ay, qy, hu2, _⟩ := R2.row.len
 subst hu1
 subst hu2
 have BX := hid (X1'.out.step hb2 X1'.out.lt)
 have FIN : Hid (∀ v v', TreesF 1 (set2 w2 (w.heap.size + 1) v v') (fun b => F b ∨ w.heap.size ≤ b) (.slice ax (leafM A).1.length qx) (leafM A).1 ∧ RowF (set2 w2 (w.heap.size + 1) v v') (fun b => F b ∨ w.heap.size ≤ b) (.slice ay (leafM A).2.length qy) (leafM A).2.length (flatI (leafM A).2) ∧ Below w.heap.size w (set2 w2 (w.heap.size + 1) v v')) := fun v v' => by
  have hc := chg_set2 w2 (w.heap.size + 1) v v'
  have hz := Z1.out
  have hk : ∀ g, v1.ownBlock = some g ∨ w1.heap.size ≤ g → ¬ g = w.heap.size + 1 ∧ w.heap.size ≤ g := fun g hg => by
   rcases hg with h | h
   ·have := N1.out g h
    omega
   ·omega
  exact ⟨(T2.chg hc (fun g hg => (hk g hg).1)).mono (fun g hg => .inr (hk g hg).2), (R2.chg hc (fun g hg => (hk g hg).1)).mono (fun g hg => .inr (hk g hg).2), (Below.and B1.out hb2).trans (hc.below (fun g _ hg => by omega) (by have := hb2.size; omega))⟩
 obtain ⟨m0, m1⟩ := BX.out.two
 obtain ⟨f0, f1⟩ := BX.out.free
 clear T2 R2 hb2 B1 X1' HL N1
 generalize (leafM A).1.length = l1 at *
 generalize hl2 : (leafM A).2.length = l2 at *
 go_wp2
 refine bodyPost_ret (v := .agg #[.slice ax l1 qx, .slice ay l2 qy]) (by simp [results, Tryd.results56, go_sem, m0, m1]) rfl ⟨_, _, rfl, (FIN.out _ _).1, by rw [hl2]; exact (FIN.out _ _).2.1, (FIN.out _ _).2.2⟩
end
end Go.Proofs.YtbmcojelgbkafaaDoor
