/-
  The program's RpcOk.
-/
import Derived.Test.YtmdajbbpigbdcaaOfRpc11
import Derived.Test.YtmdajbbpigbdcaaOfRpc9
import Derived.Test.YtmdajbbpigbdcaaOfRpc14
namespace Go.Proofs.Ytmdajbbpigbdcaa
open Go.RowKit

theorem twoOf_any (a b size : Int) (w : World) : Calls Try.prog 42 #[.int .i64 a, .int .i64 b, .int .i64 size] w fun e w' => e = .returned (.bool (inB a 0 (size - 1) && (inB b 0 (size - 1) && decide (a ≠ b)))) ∧ w' = w := by
  go_enter Try.func42, Try.ntmps42
  go_wp2_with fail
  refine (isOneOf_any _ _ _).mono ?_
  rintro e w1 ⟨rfl, hw1⟩
  subst hw1
  cases h1 : inB a 0 (size - 1)
  · go_wp2
    go_ret
    exact ⟨ret_bool (by simp [h1]), rfl⟩
  go_wp2_with fail
  refine (isOneOf_any _ _ _).mono ?_
  rintro e w2 ⟨rfl, hw2⟩
  subst hw2
  cases h2 : inB b 0 (size - 1)
  · go_wp2
    go_ret
    exact ⟨ret_bool (by simp [h2]), rfl⟩
  by_cases h3 : a = b
  · have h3b : (a != b) = false := by simp [h3]
    go_wp2
    go_ret
    exact ⟨ret_bool (by simp [h3]), rfl⟩
  · have h3b : (a != b) = true := by simp [h3]
    go_wp2
    go_ret
    exact ⟨ret_bool (by simp [h1, h2, h3]), rfl⟩

set_option maxRecDepth 100000 in
set_option maxHeartbeats 1000000 in
theorem rpcNumbersOk_any (R : RpcV) (w : World) : Calls Try.prog 43 #[R.val] w fun e w' => e = .returned (.bool (inB R.te 0 100000 && (inB R.ix 0 100000 && (inB R.it 0 100000 && inB R.cm 0 100000)))) ∧ Below w.heap.size w w' := by
  obtain ⟨kd, fr, tt, te, ix, it, cm, ok, ev, ⟨⟨sl, sp, sc, sk, sb⟩, sv⟩⟩ := R
  simp only
  have N1 := hid9 (MBox.start 56 w #[.int .i64 kd, .int .i64 fr, .int .i64 tt, .int .i64 te, .int .i64 ix, .int .i64 it, .int .i64 cm, .bool ok, ev, .bool sl, sp, sc, sk, sb, sv])
  have B1 : Hid (Below w.heap.size w (w.alloc (.cells #[.int .i64 kd, .int .i64 fr, .int .i64 tt, .int .i64 te, .int .i64 ix, .int .i64 it, .int .i64 cm, .bool ok, ev, .bool sl, sp, sc, sk, sb, sv] 56))) := bel_nw _ _
  have c1 := N1.out.cells
  show Calls Try.prog 43 #[.agg #[.int .i64 kd, .int .i64 fr, .int .i64 tt, .int .i64 te, .int .i64 ix, .int .i64 it, .int .i64 cm, .bool ok, ev, .bool sl, sp, sc, sk, sb, sv]] w _
  go_enter Try.func43, Try.ntmps43
  go_wp2_with fail
  generalize w.alloc (.cells #[.int .i64 kd, .int .i64 fr, .int .i64 tt, .int .i64 te, .int .i64 ix, .int .i64 it, .int .i64 cm, .bool ok, ev, .bool sl, sp, sc, sk, sb, sv] 56) = W at *
  refine (indexOk_any _ _).mono ?_
  rintro e w0 ⟨rfl, hw0⟩
  subst hw0
  cases h0 : inB te 0 100000
  · go_wp2
    go_ret
    exact ⟨ret_bool (by simp [h0]), B1.out⟩
  go_wp2_with fail
  refine (indexOk_any _ _).mono ?_
  rintro e w1 ⟨rfl, hw1⟩
  subst hw1
  cases h1 : inB ix 0 100000
  · go_wp2
    go_ret
    exact ⟨ret_bool (by simp [h1]), B1.out⟩
  go_wp2_with fail
  refine (indexOk_any _ _).mono ?_
  rintro e w2 ⟨rfl, hw2⟩
  subst hw2
  cases h2 : inB it 0 100000
  · go_wp2
    go_ret
    exact ⟨ret_bool (by simp [h2]), B1.out⟩
  go_wp2_with fail
  refine (indexOk_any _ _).mono ?_
  rintro e w4 ⟨rfl, hw4⟩
  subst hw4
  go_wp2
  go_ret
  exact ⟨ret_bool (by simp [h0, h1, h2]), B1.out⟩

set_option maxRecDepth 100000 in
set_option maxHeartbeats 4000000 in
theorem rpcEntriesOk_any (R : RpcV) (l : EL) (w : World) (h : Row w R.ev l.length (flatE l)) : Calls Try.prog 44 #[R.val] w fun e w' => e = .returned (.bool (rentsOk R.te l)) ∧ Below w.heap.size w w' := by
  obtain ⟨kd, fr, tt, te, ix, it, cm, ok, ev, ⟨⟨sl, sp, sc, sk, sb⟩, sv⟩⟩ := R
  obtain ⟨a, bb, off, cap, he, hcap, hmax, ha, hx0, hx1, hx2, hx3, hx4, hx5⟩ := h.ents
  simp only at he
  subst he
  unfold maxLen at hmax
  have X0 : Hid (∀ j u, Below w.heap.size w u → j < l.length → u.cell? ⟨bb, off + j * 6, none⟩ = some (.int .i64 (eT l j))) := fun j u hu hj => (hu.cell (by exact cell_lt (hx0 j hj))).trans (hx0 j hj)
  have X1 : Hid (∀ j u, Below w.heap.size w u → j < l.length → u.cell? ⟨bb, off + j * 6 + 1, none⟩ = some (.int .i64 (eC l j))) := fun j u hu hj => (hu.cell (by exact cell_lt (hx1 j hj))).trans (hx1 j hj)
  have X2 : Hid (∀ j u, Below w.heap.size w u → j < l.length → u.cell? ⟨bb, off + j * 6 + 2, none⟩ = some (.int .i64 (eS l j))) := fun j u hu hj => (hu.cell (by exact cell_lt (hx2 j hj))).trans (hx2 j hj)
  have X3 : Hid (∀ j u, Below w.heap.size w u → j < l.length → u.cell? ⟨bb, off + j * 6 + 3, none⟩ = some (.int .i64 (eO l j))) := fun j u hu hj => (hu.cell (by exact cell_lt (hx3 j hj))).trans (hx3 j hj)
  have X4 : Hid (∀ j u, Below w.heap.size w u → j < l.length → u.cell? ⟨bb, off + j * 6 + 4, none⟩ = some (.int .i64 (eK l j))) := fun j u hu hj => (hu.cell (by exact cell_lt (hx4 j hj))).trans (hx4 j hj)
  have X5 : Hid (∀ j u, Below w.heap.size w u → j < l.length → u.cell? ⟨bb, off + j * 6 + 5, none⟩ = some (.int .i64 (eV l j))) := fun j u hu hj => (hu.cell (by exact cell_lt (hx5 j hj))).trans (hx5 j hj)
  have AL : Hid (0 < l.length → a = some ⟨bb, off, none⟩) := ha
  have F0 : Hid (∀ k, k < l.length → inB (eT l k) 0 te = false → rentsOk te l = false) := fun k hk h => rentsOk_false hk (rentAt_t h)
  have F1 : Hid (∀ k, k < l.length → cmdOkB (eC l k) (eS l k) (eO l k) (eK l k) (eV l k) = false → rentsOk te l = false) := fun k hk h => rentsOk_false hk (rentAt_c h)
  have F2 : Hid ((∀ k, k < l.length → inB (eT l k) 0 te = true ∧ cmdOkB (eC l k) (eS l k) (eO l k) (eK l k) (eV l k) = true) → rentsOk te l = true) := fun h => rentsOk_true (fun k hk => rentAt_y (h k hk).1 (h k hk).2)
  clear h hx0 hx1 hx2 hx3 hx4 hx5 ha
  simp only
  generalize rentsOk te l = eo at *
  generalize eT l = gT at *
  generalize eC l = gC at *
  generalize eS l = gS at *
  generalize eO l = gO at *
  generalize eK l = gK at *
  generalize eV l = gV at *
  generalize l.length = nE at *
  have N1 := hid9 (MBox.start 56 w #[.int .i64 kd, .int .i64 fr, .int .i64 tt, .int .i64 te, .int .i64 ix, .int .i64 it, .int .i64 cm, .bool ok, .slice a nE cap, .bool sl, sp, sc, sk, sb, sv])
  have B1 : Hid (Below w.heap.size w (w.alloc (.cells #[.int .i64 kd, .int .i64 fr, .int .i64 tt, .int .i64 te, .int .i64 ix, .int .i64 it, .int .i64 cm, .bool ok, .slice a nE cap, .bool sl, sp, sc, sk, sb, sv] 56))) := bel_nw _ _
  have c1 := N1.out.cells
  show Calls Try.prog 44 #[.agg #[.int .i64 kd, .int .i64 fr, .int .i64 tt, .int .i64 te, .int .i64 ix, .int .i64 it, .int .i64 cm, .bool ok, .slice a nE cap, .bool sl, sp, sc, sk, sb, sv]] w _
  go_enter Try.func44, Try.ntmps44
  go_wp2
  generalize w.alloc (.cells #[.int .i64 kd, .int .i64 fr, .int .i64 tt, .int .i64 te, .int .i64 ix, .int .i64 it, .int .i64 cm, .bool ok, .slice a nE cap, .bool sl, sp, sc, sk, sb, sv] 56) = W at *
  go_loopw [8] (fun i wr => ∃ k : Nat, k ≤ nE ∧ i = .int .i64 k ∧ Hid (Below W.heap.size W wr) ∧ Hid (∀ j, j < k → inB (gT j) 0 te = true ∧ cmdOkB (gC j) (gS j) (gO j) (gK j) (gV j) = true))
    (fun i _ => nE - (intOf i).toNat)
  case atStart => exact ⟨0, Nat.zero_le _, rfl, Below.refl _ _, fun j hj => absurd hj (Nat.not_lt_zero _)⟩
  case round =>
    obtain ⟨k, hk, rfl, BW, ALL⟩ := hrel
    clear c1
    have B2 : Hid (Below w.heap.size w wr) := Below.and B1.out BW.out
    by_cases hlt : k < nE
    · have hal := AL.out (by omega)
      subst hal
      have d0 := X0.out k _ B2.out hlt
      have d1 := X1.out k _ B2.out hlt
      have d2 := X2.out k _ B2.out hlt
      have d3 := X3.out k _ B2.out hlt
      have d4 := X4.out k _ B2.out hlt
      have d5 := X5.out k _ B2.out hlt
      have hk0 : (0 : Int) ≤ (k : Int) := by omega
      have hk1 : (k : Int) < (nE : Int) := by omega
      have NB : Hid (Below wr.heap.size wr (wr.alloc (.cells #[.int .i64 (gT k), .int .i64 (gC k), .int .i64 (gS k), .int .i64 (gO k), .int .i64 (gK k), .int .i64 (gV k)] 82))) := bel_nw _ _
      have NX : Hid (MBox 82 (wr.alloc (.cells #[.int .i64 (gT k), .int .i64 (gC k), .int .i64 (gS k), .int .i64 (gO k), .int .i64 (gK k), .int .i64 (gV k)] 82)) wr.heap.size #[.int .i64 (gT k), .int .i64 (gC k), .int .i64 (gS k), .int .i64 (gO k), .int .i64 (gK k), .int .i64 (gV k)]) := MBox.start _ wr _
      go_upto_region 4 with fail
      generalize wr.alloc (.cells #[.int .i64 (gT k), .int .i64 (gC k), .int .i64 (gS k), .int .i64 (gO k), .int .i64 (gK k), .int .i64 (gV k)] 82) = V at *
      have c2 := (N1.out.step (Below.and BW.out NB.out)).cells
      have e0 := NX.out.cells
      replace BW := hid9 (Below.and BW.out NB.out)
      replace B2 := hid9 (Below.and B2.out NB.out)
      clear d0 d1 d2 d3 d4 d5
      have LL : Hid (inB (gT k) 0 te = (decide (0 ≤ gT k) && decide (gT k ≤ te))) := by show _ = _; unfold inB; by_cases a : 0 ≤ gT k <;> by_cases b : gT k ≤ te <;> simp [a, b]
      by_cases x0 : gT k < 0
      · have E1 : Hid (eo = false) := F0.out k hlt (by rw [LL.out]; simp; omega)
        go_wp2
        go_ret
        exact ⟨ret_bool E1.out.symm, B2.out⟩
      by_cases x1 : te < gT k
      · have E1 : Hid (eo = false) := F0.out k hlt (by rw [LL.out]; simp; omega)
        go_wp2
        go_ret
        exact ⟨ret_bool E1.out.symm, B2.out⟩
      have x2 : inB (gT k) 0 te = true := by rw [LL.out]; simp; omega
      go_wp2_with fail
      refine (implCmdOk_any _ _ _ _ _ _).mono ?_
      rintro e w2 ⟨rfl, b2⟩
      replace BW := hid9 (Below.and BW.out b2)
      replace B2 := hid9 (Below.and B2.out b2)
      clear c2 e0 b2 NB NX
      cases x3 : cmdOkB (gC k) (gS k) (gO k) (gK k) (gV k)
      · have E1 : Hid (eo = false) := F1.out k hlt x3
        go_wp2
        go_ret
        exact ⟨ret_bool E1.out.symm, B2.out⟩
      · have A2 : Hid (∀ j, j < k + 1 → inB (gT j) 0 te = true ∧ cmdOkB (gC j) (gS j) (gO j) (gK j) (gV j) = true) := fun j hj => by
          by_cases hjk : j < k
          · exact ALL.out j hjk
          · have : j = k := by omega
            subst this
            exact ⟨x2, x3⟩
        clear x2 x3
        go_wp2
        go_roundw
        case rel => exact ⟨k + 1, by omega, by go_num, BW.out, A2⟩
        case measure => simp [intOf]; omega
    · have E1 : Hid (eo = true) := F2.out (fun j hj => ALL.out j (by omega))
      go_wp2
      go_ret
      exact ⟨ret_bool E1.out.symm, B2.out⟩

theorem anyMachine_any (v0 v1 v2 v3 v4 v5 : Value) (w : World) : Calls Try.prog 68 #[.agg #[v0, v1, v2, v3, v4, v5]] w fun e w' => e = .returned (.bool true) ∧ Below w.heap.size w w' := by
  have B1 : Hid (Below w.heap.size w (w.alloc (.cells #[v0, v1, v2, v3, v4, v5] 33))) := bel_nw _ _
  go_enter Try.func68, Try.ntmps68
  go_wp2
  go_ret
  exact ⟨rfl, B1.out⟩

end Go.Proofs.Ytmdajbbpigbdcaa
