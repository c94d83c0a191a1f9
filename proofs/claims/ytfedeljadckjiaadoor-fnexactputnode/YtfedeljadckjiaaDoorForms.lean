/-
  Numbers in a row put into bytes: the program's formsOf, the model's l5Nums.
-/
import Derived.Test.YtfedeljadckjiaaDoorNodeMath
import Derived.Test.YtfedeljadckjiaaDoorDemand
namespace Go.Proofs.YtfedeljadckjiaaDoor
open Go.RowKit

theorem roomB {n m : Nat} (h : n + m ≤ 8388608) : n + m ≤ maxLen ∧ (n + m) * 1 ≤ 140737488355328 := ⟨by unfold maxLen; omega, by omega⟩

set_option maxRecDepth 100000 in
set_option maxHeartbeats 2000000 in
theorem formsOf_any (ea : Addr) (v : Value) (l : List Int) (w : World) (h : Row w v l.length (flatI l)) (hn : l.length ≤ 1000) (he : ErrIs ea w) :
    Calls Tryd.prog 41 #[v] w fun e w' => Below w.heap.size w w' ∧ ((okNums l ∧ ∃ v', e = .returned v' ∧ OwnB w.heap.size w' v' (formsB l)) ∨ (¬ okNums l ∧ e = .panicked (boom ea))) := by
  obtain ⟨a, b, off, cap, rfl, hcap, hmax, ha, hk⟩ := h.nums
  obtain ⟨i0, hi, hz0, hz1, hz2⟩ := info_parts Tryd.infoByte
  unfold maxLen at hmax
  have E0 : Hid (OwnB w.heap.size w (.slice none 0 0) []) := ⟨rfl, .inl ⟨rfl, rfl⟩⟩
  have HE : Hid (ErrIs ea w) := he
  clear h he
  go_enter Tryd.func41, Tryd.ntmps41
  go_wp2
  go_loopw [3, 9] (fun o i wr => ∃ k : Nat, k ≤ l.length ∧ i = .int .i64 k ∧ okNums (l.take k) ∧ OwnB w.heap.size wr o (formsB (l.take k)) ∧ Below w.heap.size w wr)
    (fun _ i _ => l.length - (intOf i).toNat)
  case atStart => exact ⟨0, Nat.zero_le _, rfl, fun x hx => by simp at hx, by simpa [formsB] using E0.out, Below.refl _ _⟩
  case round =>
    obtain ⟨k, hkl, rfl, hok, hown, hb⟩ := hrel
    obtain ⟨av, cv, rfl, _, _⟩ := owns_shape hown
    have OW : Hid _ := And.intro hown (And.intro hok hb)
    clear hok
    by_cases hlt : k < l.length
    · have hal := ha (by omega)
      subst hal
      have d0 : wr.cell? ⟨b, off + k, none⟩ = some (.int .i64 (iAt l k)) := (hb.cell (by exact cell_lt (hk k hlt))).trans (hk k hlt)
      have FSu : Hid _ := formsB_succ l k hlt
      have OK1 : Hid _ := fun h => okNums_take (l := l) (k := k) OW.out.2.1 hlt h
      have OK2 : Hid _ := fun h => okNums_not (l := l) (k := k) hlt h
      have hDl : (formsB (l.take k)).length ≤ 5000 := by have := formsB_length (l.take k); simp at this; omega
      generalize iAt l k = x at *
      generalize formsB (l.take k) = D at *
      clear hk ha hown hb
      go_wp2_with fail
      refine (implPutNum_any x _).mono ?_
      rintro e w1 ⟨v1, rfl, o1, b1⟩
      have R1 : Row w1 v1 (putN x).length (flatB (putN x)) := Row.of_owns o1
      have hPl := putN_length x
      obtain ⟨a1, q1, rfl, _, hq1⟩ := owns_shape o1
      have B1 : Hid (Below w.heap.size w w1) := OW.out.2.2.trans (b1.mono OW.out.2.2.size)
      have O1 : Hid (OwnB w.heap.size w1 (.slice av D.length cv) D ∧ Row w1 (.slice a1 (putN x).length q1) (putN x).length (flatB (putN x))) := ⟨owns_below OW.out.1 b1, R1⟩
      clear o1 b1 R1
      by_cases hx : -2000000000 ≤ x ∧ x ≤ 2000000000
      · have hpos : 0 < (putN x).length := by
          rcases Nat.eq_zero_or_pos (putN x).length with h0 | h0
          · exact absurd hx (fun hx => by rw [putN_in hx.1 hx.2] at h0; have := sevens_pos 4 (codeN x); omega)
          · exact h0
        have N1 : Hid _ := OK1.out hx
        have BS := B1.out.size
        have HX : Hid _ := hx
        have HR : Hid _ := roomB (n := D.length) (m := (putN x).length) (by omega)
        clear hx OK1 OK2
        generalize hp : putN x = P at *
        go_wp2_with fail
        refine (demand_true _).mono ?_
        rintro e w2 ⟨rfl, rfl⟩
        go_wp2_with (at_builtin; refine app_row w1 rfl _ _ 22 rfl w.heap.size 5 i0 _ 1 1 Tryd.underlying22 hi hz0 hz1 hz2 rfl (by decide) (.slice av D.length cv) D.length (flatB D) rfl O1.out.1 (.slice a1 P.length q1) P.length (flatB P) rfl O1.out.2 (by rw [flatB_length]; omega) (flatB_one _) HR.out.1 HR.out.2 BS ?_)
        intro v' w3 ho3 _ hb3
        have O3 : OwnB w.heap.size w3 v' (D ++ P) := by
          unfold OwnB; rw [flatB_append]; simpa using ho3
        have PP : Hid _ := And.intro O3 (B1.out.trans hb3)
        clear ho3 hb3 O3
        go_wp2
        go_roundw
        case rel => exact ⟨k + 1, by omega, by go_num, N1.out, by rw [FSu.out]; exact PP.out.1, PP.out.2⟩
        case measure => simp [intOf]; omega
      · have h0 : (putN x).length = 0 := by rw [putN_out hx]; rfl
        have NO : Hid _ := OK2.out hx
        have HE1 : Hid (ErrIs ea w1) := HE.out.below (by exact B1.out)
        clear hx OK1 OK2
        generalize (putN x).length = L at *
        subst h0
        go_wp2_with fail
        refine (demand_false ea _ HE1.out).mono ?_
        rintro e w2 ⟨rfl, rfl⟩
        go_wp2
        exact ⟨rfl, B1.out, .inr ⟨NO.out, rfl⟩⟩
    · have hkk : k = l.length := by omega
      subst hkk
      rw [List.take_length] at OW ⊢
      have ho := OW.out
      go_wp2
      go_ret
      exact ⟨ho.2.2, .inl ⟨ho.2.1, _, rfl, ho.1⟩⟩

set_option maxRecDepth 100000 in
set_option maxHeartbeats 2000000 in
theorem l5Nums_any (v : Value) (l : List Int) (w : World) (h : Row w v l.length (flatI l)) (hn : l.length ≤ 1000) :
    Calls Tryd.prog 43 #[v] w fun e w' => Below w.heap.size w w' ∧ ∃ v', (okNums l ∧ e = .returned (.tuple #[v', .bool true]) ∧ OwnB w.heap.size w' v' (formsB l)) ∨ (¬ okNums l ∧ e = .returned (.tuple #[v', .bool false]) ∧ OwnB w.heap.size w' v' []) := by
  obtain ⟨a, b, off, cap, rfl, hcap, hmax, ha, hk⟩ := h.nums
  obtain ⟨i0, hi, hz0, hz1, hz2⟩ := info_parts Tryd.infoByte
  unfold maxLen at hmax
  have e0 : OwnB w.heap.size (w.alloc (.cells #[] 5)) (.slice (some ⟨w.heap.size, 0, none⟩) 0 0) [] := empty_own w w.heap.size 5 1 (Nat.le_refl _)
  have b0 : Below w.heap.size w (w.alloc (.cells #[] 5)) := (Below.refl _ _).alloc (Nat.le_refl _) _
  have E0 : Hid _ := And.intro e0 b0
  clear h e0 b0
  go_enter Tryd.func43, Tryd.ntmps43
  go_wp2
  go_loopw [4, 5] (fun o i wr => ∃ k : Nat, k ≤ l.length ∧ i = .int .i64 k ∧ okNums (l.take k) ∧ OwnB w.heap.size wr o (formsB (l.take k)) ∧ Below w.heap.size w wr)
    (fun _ i _ => l.length - (intOf i).toNat)
  case atStart => exact ⟨0, Nat.zero_le _, rfl, fun x hx => by simp at hx, by simpa [formsB] using E0.out.1, E0.out.2⟩
  case round =>
    obtain ⟨k, hkl, rfl, hok, hown, hb⟩ := hrel
    obtain ⟨av, cv, rfl, _, _⟩ := owns_shape hown
    have OW : Hid _ := And.intro hown (And.intro hok hb)
    clear hok
    by_cases hlt : k < l.length
    · have hal := ha (by omega)
      subst hal
      have d0 : wr.cell? ⟨b, off + k, none⟩ = some (.int .i64 (iAt l k)) := (hb.cell (by exact cell_lt (hk k hlt))).trans (hk k hlt)
      have FSu : Hid _ := formsB_succ l k hlt
      have OK1 : Hid _ := fun h => okNums_take (l := l) (k := k) OW.out.2.1 hlt h
      have OK2 : Hid _ := fun h => okNums_not (l := l) (k := k) hlt h
      have hDl : (formsB (l.take k)).length ≤ 5000 := by have := formsB_length (l.take k); simp at this; omega
      generalize iAt l k = x at *
      generalize formsB (l.take k) = D at *
      clear hk ha hown hb
      go_wp2_with fail
      refine (specPutNum_any x _).mono ?_
      rintro e w1 ⟨v1, rfl, o1, b1⟩
      have R1 : Row w1 v1 (putN x).length (flatB (putN x)) := Row.of_owns o1
      have hPl := putN_length x
      obtain ⟨a1, q1, rfl, _, hq1⟩ := owns_shape o1
      have B1 : Hid (Below w.heap.size w w1) := OW.out.2.2.trans (b1.mono OW.out.2.2.size)
      have O1 : Hid (OwnB w.heap.size w1 (.slice av D.length cv) D ∧ Row w1 (.slice a1 (putN x).length q1) (putN x).length (flatB (putN x))) := ⟨owns_below OW.out.1 b1, R1⟩
      clear o1 b1 R1
      by_cases hx : -2000000000 ≤ x ∧ x ≤ 2000000000
      · have hpos : 0 < (putN x).length := by
          rcases Nat.eq_zero_or_pos (putN x).length with h0 | h0
          · exact absurd hx (fun hx => by rw [putN_in hx.1 hx.2] at h0; have := sevens_pos 4 (codeN x); omega)
          · exact h0
        have N1 : Hid _ := OK1.out hx
        have BS := B1.out.size
        have HX : Hid _ := hx
        have HR : Hid _ := roomB (n := D.length) (m := (putN x).length) (by omega)
        have hne : (((putN x).length : Int) == 0) = false := by rw [beq_eq_false_iff_ne]; omega
        clear hx OK1 OK2
        generalize hp : putN x = P at *
        go_wp2_with (at_builtin; refine app_row w1 rfl _ _ 22 rfl w.heap.size 5 i0 _ 1 1 Tryd.underlying22 hi hz0 hz1 hz2 rfl (by decide) (.slice av D.length cv) D.length (flatB D) rfl O1.out.1 (.slice a1 P.length q1) P.length (flatB P) rfl O1.out.2 (by rw [flatB_length]; omega) (flatB_one _) HR.out.1 HR.out.2 BS ?_)
        intro v' w3 ho3 _ hb3
        have O3 : OwnB w.heap.size w3 v' (D ++ P) := by
          unfold OwnB; rw [flatB_append]; simpa using ho3
        have PP : Hid _ := And.intro O3 (B1.out.trans hb3)
        clear ho3 hb3 O3
        go_wp2
        go_roundw
        case rel => exact ⟨k + 1, by omega, by go_num, N1.out, by rw [FSu.out]; exact PP.out.1, PP.out.2⟩
        case measure => simp [intOf]; omega
      · have h0 : (putN x).length = 0 := by rw [putN_out hx]; rfl
        have NO : Hid _ := OK2.out hx
        have F0 : Hid (OwnB w.heap.size (w1.alloc (.cells #[] 5)) (.slice (some ⟨w1.heap.size, 0, none⟩) 0 0) [] ∧ Below w.heap.size w (w1.alloc (.cells #[] 5))) := ⟨empty_own w1 w.heap.size 5 1 B1.out.size, B1.out.alloc B1.out.size _⟩
        clear hx OK1 OK2
        generalize (putN x).length = L at *
        subst h0
        go_wp2
        refine bodyPost_ret (v := .tuple #[.slice (some ⟨w1.heap.size, 0, none⟩) 0 0, .bool false]) (by simp [results, Tryd.results43, go_sem]) rfl ⟨F0.out.2, _, .inr ⟨NO.out, rfl, F0.out.1⟩⟩
    · have hkk : k = l.length := by omega
      subst hkk
      rw [List.take_length] at OW ⊢
      have ho : Hid _ := OW.out
      clear OW hown hb
      go_wp2
      refine bodyPost_ret (v := .tuple #[.slice av (formsB l).length cv, .bool true]) (by simp [results, Tryd.results43, go_sem]) rfl ⟨ho.out.2.2, _, .inl ⟨ho.out.2.1, rfl, ho.out.1⟩⟩

end Go.Proofs.YtfedeljadckjiaaDoor
