/-
  The program's RpcOk, whole.
-/
import Derived.Test.YtmdajbbpigbdcaaOfRpc15
import Derived.Test.YtmdajbbpigbdcaaOfRpc9
import Derived.Deep.DeepCutAuto
import Derived.Deep.RegionHeld3
namespace Go.Proofs.Ytmdajbbpigbdcaa
open Go.RowKit

theorem run_rpcKinds (args : Array Value) (w : World) : (callFunc 41 args).run Try.prog w = .ok (.enter 41 args) w := by go_simp
theorem kindF_form (k : Int) : ∃ f g, kindF k = .agg #[f, g] ∧ (#[f, g] : Array Value).all (·.oneCell') = true ∧ (inB k 1 5 = true → k ≠ 5 → g = .func (.func 68) #[] #[]) ∧ (k = 5 → g = .func (.func 72) #[] #[]) := by
  unfold kindF
  split
  · next h => exact ⟨_, _, rfl, by simp [Value.oneCell'], fun _ _ => rfl, fun e => by omega⟩
  split
  · next h => exact ⟨_, _, rfl, by simp [Value.oneCell'], fun _ _ => rfl, fun e => by omega⟩
  split
  · next h => exact ⟨_, _, rfl, by simp [Value.oneCell'], fun _ _ => rfl, fun e => by omega⟩
  split
  · next h => exact ⟨_, _, rfl, by simp [Value.oneCell'], fun _ _ => rfl, fun e => by omega⟩
  split
  · next h => exact ⟨_, _, rfl, by simp [Value.oneCell'], fun _ e => absurd h e, fun _ => rfl⟩
  · next h1 h2 h3 h4 h5 => exact ⟨_, _, rfl, by simp [Value.oneCell'], fun e _ => by have := inB_iff.1 e; omega, fun e => absurd e h5⟩
set_option maxRecDepth 100000 in
theorem wp_look_kind {op : Oper} {a : Act} {w : World} {K : Act → World → Prop} {Q : Exit → Act → World → Prop} (x y : Operand) (ho : op.op = .lookup 91 x y true)
    (b : Nat) (k : Int) (hx : a.eval x = .map (some b)) (hy : a.eval y = .int .i64 k) (hb : w.heap[b]? = some (.map kinds5 5))
    (h : K (a.put op.dst (.tuple #[kindF k, .bool (inB k 1 5)])) w) : op.wp Try.prog a w K Q := by
  unfold Oper.wp execOp
  simp only [ho, hx, hy, Sem.run_bind, look_kind hb k, Result.andThen_ok, Sem.run_pure]
  exact h

set_option maxRecDepth 100000 in
set_option maxHeartbeats 4000000 in
theorem implRpcOk_any (n : Nat) (R : RpcV) (D : Rd) (size : Int) (w : World) (h : RpcAt n w R D) :
    Calls Try.prog 13 #[R.val, .int .i64 size] w fun e w' => e = .returned (.bool (rpcOkB R D size)) ∧ Below w.heap.size w w' := by
  have T1 : Hid (∀ u, Calls Try.prog 43 #[R.val] u fun e w' => e = .returned (.bool (inB R.te 0 100000 && (inB R.ix 0 100000 && (inB R.it 0 100000 && inB R.cm 0 100000)))) ∧ Below u.heap.size u w') := fun u => rpcNumbersOk_any R u
  have T2 : Hid (∀ u, Below w.heap.size w u → Calls Try.prog 44 #[R.val] u fun e w' => e = .returned (.bool (rentsOk R.te D.l)) ∧ Below u.heap.size u w') := fun u hu => rpcEntriesOk_any R D.l u (h.1.below hu)
  have M1 : Hid (∀ u, Below w.heap.size w u → Calls Try.prog 72 #[R.s.val] u fun e w' => e = .returned (.bool (machOk D.T D.d)) ∧ Below u.heap.size u w') := fun u hu => implMachineOk_any n R.s D.T D.d u (h.2.below hu)
  clear h
  unfold rpcOkB
  generalize rentsOk R.te D.l = eo at *
  generalize machOk D.T D.d = mo at *
  obtain ⟨kd, fr, tt, te, ix, it, cm, ok, ev, ⟨⟨sl, sp, sc, sk, sb⟩, sv⟩⟩ := R
  simp only [RpcV.val, MacV.val] at T1 T2 M1
  simp only
  obtain ⟨f, g, hfg0, hone, hg1, hg2⟩ := kindF_form kd
  have hfg := hid9 hfg0
  have ONE := hid9 hone
  have G1 := hid9 hg1
  have G2 := hid9 hg2
  clear hfg0 hone hg1 hg2
  have HRK : Hid ((Try.prog.info? 89).map (·.size) = some (#[f, g] : Array Value).size) := (show (Try.prog.info? 89).map (·.size) = some 2 by kernel_rfl)
  have HI : Hid ((Try.prog.info? 56).map (·.size) = some (List.length ([.int .i64 kd, .int .i64 fr, .int .i64 tt, .int .i64 te, .int .i64 ix, .int .i64 it, .int .i64 cm, .bool ok, ev, .bool sl, sp, sc, sk, sb, sv] : List Value))) := (show (Try.prog.info? 56).map (·.size) = some 15 by kernel_rfl)
  have B1 : Hid (Below w.heap.size w (w.alloc (.cells #[.int .i64 kd, .int .i64 fr, .int .i64 tt, .int .i64 te, .int .i64 ix, .int .i64 it, .int .i64 cm, .bool ok, ev, .bool sl, sp, sc, sk, sb, sv] 56))) := bel_nw _ _
  have KE : Hid (∀ u, Below (w.alloc (.cells #[.int .i64 kd, .int .i64 fr, .int .i64 tt, .int .i64 te, .int .i64 ix, .int .i64 it, .int .i64 cm, .bool ok, ev, .bool sl, sp, sc, sk, sb, sv] 56)).heap.size (w.alloc (.cells #[.int .i64 kd, .int .i64 fr, .int .i64 tt, .int .i64 te, .int .i64 ix, .int .i64 it, .int .i64 cm, .bool ok, ev, .bool sl, sp, sc, sk, sb, sv] 56)) u → (fun u : World => World.rangeAt u w.heap.size 0 ([.int .i64 kd, .int .i64 fr, .int .i64 tt, .int .i64 te, .int .i64 ix, .int .i64 it, .int .i64 cm, .bool ok, ev, .bool sl, sp, sc, sk, sb, sv] : List Value) ∧ u.cell? ⟨w.heap.size, 0, none⟩ = some (.int .i64 kd) ∧ u.cell? ⟨w.heap.size, 1, none⟩ = some (.int .i64 fr) ∧ u.cell? ⟨w.heap.size, 2, none⟩ = some (.int .i64 tt) ∧ u.cell? ⟨w.heap.size, 9, none⟩ = some (.bool sl) ∧ u.cell? ⟨w.heap.size, 10, none⟩ = some (sp) ∧ u.cell? ⟨w.heap.size, 11, none⟩ = some (sc) ∧ u.cell? ⟨w.heap.size, 12, none⟩ = some (sk) ∧ u.cell? ⟨w.heap.size, 13, none⟩ = some (sb) ∧ u.cell? ⟨w.heap.size, 14, none⟩ = some (sv)) u) := fun u hu => by
    have N1 := (MBox.start 56 w #[.int .i64 kd, .int .i64 fr, .int .i64 tt, .int .i64 te, .int .i64 ix, .int .i64 it, .int .i64 cm, .bool ok, ev, .bool sl, sp, sc, sk, sb, sv]).step hu
    have c := N1.cells
    exact ⟨range_of N1, c 0, c 1, c 2, c 9, c 10, c 11, c 12, c 13, c 14⟩
  show Calls Try.prog 13 #[.agg #[.int .i64 kd, .int .i64 fr, .int .i64 tt, .int .i64 te, .int .i64 ix, .int .i64 it, .int .i64 cm, .bool ok, ev, .bool sl, sp, sc, sk, sb, sv], .int .i64 size] w _
  go_enter Try.func13, Try.ntmps13
  go_upto_region 1 with fail
  generalize w.alloc (.cells #[.int .i64 kd, .int .i64 fr, .int .i64 tt, .int .i64 te, .int .i64 ix, .int .i64 it, .int .i64 cm, .bool ok, ev, .bool sl, sp, sc, sk, sb, sv] 56) = W at *
  generalize ([.int .i64 kd, .int .i64 fr, .int .i64 tt, .int .i64 te, .int .i64 ix, .int .i64 it, .int .i64 cm, .bool ok, ev, .bool sl, sp, sc, sk, sb, sv] : List Value) = cs at *
  go_cut [5, 6] (fun x5 x6 wx => ∃ bx : Nat, x5 = .pointer (some ⟨bx, 0, none⟩) ∧ x6 = .bool (inB kd 1 5) ∧ Hid (Below W.heap.size W wx) ∧ Hid (wx.heap[bx]? = some (.cells #[f, g] 89 (0, 0))))
  case first =>
    as_aux_lemma =>
      have KS : Hid (∀ u, Below W.heap.size W u → (fun u : World => u.cell? ⟨w.heap.size, 0, none⟩ = some (.int .i64 kd)) u) := fun u hu => (KE.out u hu).2.1
      have SL : Hid (Below W.heap.size W W.drew) := (Below.refl _ _).drew
      clear T1 T2 M1 G1 G2 HI KE
      refine wp_region_held_drew (S := (fun u : World => u.cell? ⟨w.heap.size, 0, none⟩ = some (.int .i64 kd))) (by kernel_rfl) (KS.out _ SL.out) (fun hH => ?_)
      refine wpAnyH_take (i := 1) (oi := ⟨_, _, _, _, _, _⟩) (v := ?_) rfl (by kernel_rfl) (by kernel_rfl) (by kernel_rfl) (fun _ _ _ h => h) (Or.inl ⟨by rfl, ?_⟩) (by assumption) ?_
      rotate_left
      · ((intro w hSw; (try dsimp only at hSw); go_simp); (try with_reducible rfl))
      try simp only [Act.put, List.setIfInBounds_toArray, List.set_cons_zero, List.set_cons_succ]
      refine wpAnyH_take (i := 2) (oi := ⟨_, _, _, _, _, _⟩) (v := ?_) rfl (by kernel_rfl) (by kernel_rfl) (by kernel_rfl) (fun _ _ _ h => h) (Or.inl ⟨by rfl, ?_⟩) (by assumption) ?_
      rotate_left
      · ((intro w hSw; (try dsimp only at hSw); go_simp); (try with_reducible rfl))
      try simp only [Act.put, List.setIfInBounds_toArray, List.set_cons_zero, List.set_cons_succ]
      refine wpAnyH_ready (rs := [0, 7]) (by kernel_rfl) (by simp) ?_
      refine (AllReadyH.cons (o := ⟨_, _, _, _, _, _⟩) rfl (fun K hK => ?_) (AllReadyH.cons (o := ⟨_, _, _, _, _, _⟩) rfl (fun K hK => ?_) AllReadyH.nil))
      · refine (if_pos (show Region.wanted _ _ = true by kernel_rfl)).mpr ?_
        refine call_by 41 [] #[] rfl run_rpcKinds [] rfl (rpcKinds_any _) ?_
        rintro e u1 ⟨rfl, mb, b1⟩
        have MB := hid9 mb
        replace SL := hid9 (Below.and SL.out b1)
        refine ⟨_, rfl, ?_⟩
        refine hK.out _ _ (KS.out _ SL.out) (fun hH2 => ?_)
        clear hK K hH
        have hH := hH2
        clear hH2
        try simp only [Act.put, List.setIfInBounds_toArray, List.set_cons_zero, List.set_cons_succ]
        refine wpAnyH_ready (rs := [3, 7]) (by kernel_rfl) (by simp) ?_
        refine (AllReadyH.cons (o := ⟨_, _, _, _, _, _⟩) rfl (fun K hK => ?_) (AllReadyH.cons (o := ⟨_, _, _, _, _, _⟩) rfl (fun K hK => ?_) AllReadyH.nil))
        · refine (if_pos (show Region.wanted _ _ = true by kernel_rfl)).mpr ?_
          refine wp_look_kind _ _ rfl (W.drew.heap.size) kd rfl rfl MB.out ?_
          rw [hfg.out]
          refine hK.out _ _ (KS.out _ SL.out) (fun hH2 => ?_)
          clear hK K hH
          have hH := hH2
          clear hH2
          try simp only [Act.put, List.setIfInBounds_toArray, List.set_cons_zero, List.set_cons_succ]
          refine wpAnyH_take (i := 4) (oi := ⟨_, _, _, _, _, _⟩) (v := ?_) rfl (by kernel_rfl) (by kernel_rfl) (by kernel_rfl) (fun _ _ _ h => h) (Or.inl ⟨by rfl, ?_⟩) (by assumption) ?_
          rotate_left
          · ((intro w hSw; (try dsimp only at hSw); go_simp); (try with_reducible rfl))
          try simp only [Act.put, List.setIfInBounds_toArray, List.set_cons_zero, List.set_cons_succ]
          refine wpAnyH_take (i := 5) (oi := ⟨_, _, _, _, _, _⟩) (v := ?_) rfl (by kernel_rfl) (by kernel_rfl) (by kernel_rfl) (fun _ _ _ h => h) (Or.inl ⟨by rfl, ?_⟩) (by assumption) ?_
          rotate_left
          · ((intro w hSw; (try dsimp only at hSw); go_simp); (try with_reducible rfl))
          try simp only [Act.put, List.setIfInBounds_toArray, List.set_cons_zero, List.set_cons_succ]
          refine wpAnyH_take (i := 6) (oi := ⟨_, _, _, _, _, _⟩) (v := ?_) rfl (by kernel_rfl) (by kernel_rfl) (by kernel_rfl) (fun _ _ _ h => h) (Or.inl ⟨by rfl, ?_⟩) (by assumption) ?_
          rotate_left
          · ((intro w hSw; (try dsimp only at hSw); go_simp); (try with_reducible rfl))
          try simp only [Act.put, List.setIfInBounds_toArray, List.set_cons_zero, List.set_cons_succ]
          refine wpAnyH_ready (rs := [7]) (by kernel_rfl) (by simp) ?_
          refine (AllReadyH.cons (o := ⟨_, _, _, _, _, _⟩) rfl (fun K hK => ?_) AllReadyH.nil)
          · refine (if_pos (show Region.wanted _ _ = true by kernel_rfl)).mpr ?_
            go_simp
            have VB := hid9 (heap_alloc_new u1 (.cells #[.nilFunc, .nilFunc] 89 (0, 0)))
            have VL : Hid (W.heap.size ≤ u1.heap.size) := SL.out.size
            replace MB := hid9 (step_at MB.out (bel_nw u1 (.cells #[.nilFunc, .nilFunc] 89 (0, 0))))
            replace SL := hid9 (Below.and SL.out (bel_nw u1 (.cells #[.nilFunc, .nilFunc] 89 (0, 0))))
            refine hK.out _ _ (KS.out _ SL.out) (fun hH2 => ?_)
            clear hK K hH
            have hH := hH2
            clear hH2
            try simp only [Act.put, List.setIfInBounds_toArray, List.set_cons_zero, List.set_cons_succ]
            refine wpAnyH_ready (rs := [8]) (by kernel_rfl) (by simp) ?_
            refine AllReadyH.cons (o := ⟨_, _, _, _, _, _⟩) rfl (fun K hK => ?_) AllReadyH.nil
            refine (if_pos (show Region.wanted _ _ = true by kernel_rfl)).mpr ?_
            refine wp_store_mid 89 _ _ rfl (u1.heap.size) 0 #[f, g] rfl rfl (there_of VB.out rfl) HRK.out ONE.out ?_
            have VC := hid9 (setAll_at VB.out [f, g] rfl)
            replace SL := hid9 (SL.out.trans ((Chg.setCells (F := fun g => g = u1.heap.size) (g := u1.heap.size) (fun _ => rfl) [f, g] 0 _ (Chg.refl _ _)).below (fun g _ hg => by have := VL.out; omega) SL.out.size))
            refine hK.out _ _ (KS.out _ SL.out) (fun hH2 => ?_)
            clear hK K hH
            have hH := hH2
            clear hH2
            try simp only [Act.put]
            refine wpAnyH_take (i := 9) (oi := ⟨_, _, _, _, _, _⟩) (v := ?_) rfl (by kernel_rfl) (by kernel_rfl) (by kernel_rfl) (fun _ _ _ h => h) (Or.inl ⟨by rfl, ?_⟩) (by assumption) ?_
            rotate_left
            · ((intro w hSw; (try dsimp only at hSw); go_simp); (try with_reducible rfl))
            try simp only [Act.put, List.setIfInBounds_toArray, List.set_cons_zero, List.set_cons_succ]
            refine wpAnyH_done (by kernel_rfl) ?_ _
            go_wp2
            go_meet
            exact ⟨u1.heap.size, rfl, rfl, SL.out, VC.out⟩
        · refine (if_pos (show Region.wanted _ _ = true by kernel_rfl)).mpr ?_
          go_simp
          have VB := hid9 (heap_alloc_new u1 (.cells #[.nilFunc, .nilFunc] 89 (0, 0)))
          have VL : Hid (W.heap.size ≤ u1.heap.size) := SL.out.size
          replace MB := hid9 (step_at MB.out (bel_nw u1 (.cells #[.nilFunc, .nilFunc] 89 (0, 0))))
          replace SL := hid9 (Below.and SL.out (bel_nw u1 (.cells #[.nilFunc, .nilFunc] 89 (0, 0))))
          refine hK.out _ _ (KS.out _ SL.out) (fun hH2 => ?_)
          clear hK K hH
          have hH := hH2
          clear hH2
          try simp only [Act.put, List.setIfInBounds_toArray, List.set_cons_zero, List.set_cons_succ]
          refine wpAnyH_ready (rs := [3]) (by kernel_rfl) (by simp) ?_
          refine (AllReadyH.cons (o := ⟨_, _, _, _, _, _⟩) rfl (fun K hK => ?_) AllReadyH.nil)
          · refine (if_pos (show Region.wanted _ _ = true by kernel_rfl)).mpr ?_
            refine wp_look_kind _ _ rfl (W.drew.heap.size) kd rfl rfl MB.out ?_
            rw [hfg.out]
            refine hK.out _ _ (KS.out _ SL.out) (fun hH2 => ?_)
            clear hK K hH
            have hH := hH2
            clear hH2
            try simp only [Act.put, List.setIfInBounds_toArray, List.set_cons_zero, List.set_cons_succ]
            refine wpAnyH_take (i := 4) (oi := ⟨_, _, _, _, _, _⟩) (v := ?_) rfl (by kernel_rfl) (by kernel_rfl) (by kernel_rfl) (fun _ _ _ h => h) (Or.inl ⟨by rfl, ?_⟩) (by assumption) ?_
            rotate_left
            · ((intro w hSw; (try dsimp only at hSw); go_simp); (try with_reducible rfl))
            try simp only [Act.put, List.setIfInBounds_toArray, List.set_cons_zero, List.set_cons_succ]
            refine wpAnyH_take (i := 5) (oi := ⟨_, _, _, _, _, _⟩) (v := ?_) rfl (by kernel_rfl) (by kernel_rfl) (by kernel_rfl) (fun _ _ _ h => h) (Or.inl ⟨by rfl, ?_⟩) (by assumption) ?_
            rotate_left
            · ((intro w hSw; (try dsimp only at hSw); go_simp); (try with_reducible rfl))
            try simp only [Act.put, List.setIfInBounds_toArray, List.set_cons_zero, List.set_cons_succ]
            refine wpAnyH_take (i := 6) (oi := ⟨_, _, _, _, _, _⟩) (v := ?_) rfl (by kernel_rfl) (by kernel_rfl) (by kernel_rfl) (fun _ _ _ h => h) (Or.inl ⟨by rfl, ?_⟩) (by assumption) ?_
            rotate_left
            · ((intro w hSw; (try dsimp only at hSw); go_simp); (try with_reducible rfl))
            try simp only [Act.put, List.setIfInBounds_toArray, List.set_cons_zero, List.set_cons_succ]
            refine wpAnyH_ready (rs := [8]) (by kernel_rfl) (by simp) ?_
            refine AllReadyH.cons (o := ⟨_, _, _, _, _, _⟩) rfl (fun K hK => ?_) AllReadyH.nil
            refine (if_pos (show Region.wanted _ _ = true by kernel_rfl)).mpr ?_
            refine wp_store_mid 89 _ _ rfl (u1.heap.size) 0 #[f, g] rfl rfl (there_of VB.out rfl) HRK.out ONE.out ?_
            have VC := hid9 (setAll_at VB.out [f, g] rfl)
            replace SL := hid9 (SL.out.trans ((Chg.setCells (F := fun g => g = u1.heap.size) (g := u1.heap.size) (fun _ => rfl) [f, g] 0 _ (Chg.refl _ _)).below (fun g _ hg => by have := VL.out; omega) SL.out.size))
            refine hK.out _ _ (KS.out _ SL.out) (fun hH2 => ?_)
            clear hK K hH
            have hH := hH2
            clear hH2
            try simp only [Act.put]
            refine wpAnyH_take (i := 9) (oi := ⟨_, _, _, _, _, _⟩) (v := ?_) rfl (by kernel_rfl) (by kernel_rfl) (by kernel_rfl) (fun _ _ _ h => h) (Or.inl ⟨by rfl, ?_⟩) (by assumption) ?_
            rotate_left
            · ((intro w hSw; (try dsimp only at hSw); go_simp); (try with_reducible rfl))
            try simp only [Act.put, List.setIfInBounds_toArray, List.set_cons_zero, List.set_cons_succ]
            refine wpAnyH_done (by kernel_rfl) ?_ _
            go_wp2
            go_meet
            exact ⟨u1.heap.size, rfl, rfl, SL.out, VC.out⟩
      · refine (if_pos (show Region.wanted _ _ = true by kernel_rfl)).mpr ?_
        go_simp
        have VB := hid9 (heap_alloc_new W.drew (.cells #[.nilFunc, .nilFunc] 89 (0, 0)))
        have VL : Hid (W.heap.size ≤ W.drew.heap.size) := SL.out.size
        replace SL := hid9 (Below.and SL.out (bel_nw W.drew (.cells #[.nilFunc, .nilFunc] 89 (0, 0))))
        refine hK.out _ _ (KS.out _ SL.out) (fun hH2 => ?_)
        clear hK K hH
        have hH := hH2
        clear hH2
        try simp only [Act.put, List.setIfInBounds_toArray, List.set_cons_zero, List.set_cons_succ]
        refine wpAnyH_ready (rs := [0]) (by kernel_rfl) (by simp) ?_
        refine (AllReadyH.cons (o := ⟨_, _, _, _, _, _⟩) rfl (fun K hK => ?_) AllReadyH.nil)
        · refine (if_pos (show Region.wanted _ _ = true by kernel_rfl)).mpr ?_
          refine call_by 41 [] #[] rfl run_rpcKinds [] rfl (rpcKinds_any _) ?_
          rintro e u2 ⟨rfl, mb, b2⟩
          have MB := hid9 mb
          replace VB := hid9 (step_at VB.out b2)
          replace SL := hid9 (Below.and SL.out b2)
          refine ⟨_, rfl, ?_⟩
          refine hK.out _ _ (KS.out _ SL.out) (fun hH2 => ?_)
          clear hK K hH
          have hH := hH2
          clear hH2
          try simp only [Act.put, List.setIfInBounds_toArray, List.set_cons_zero, List.set_cons_succ]
          refine wpAnyH_ready (rs := [3]) (by kernel_rfl) (by simp) ?_
          refine (AllReadyH.cons (o := ⟨_, _, _, _, _, _⟩) rfl (fun K hK => ?_) AllReadyH.nil)
          · refine (if_pos (show Region.wanted _ _ = true by kernel_rfl)).mpr ?_
            refine wp_look_kind _ _ rfl ((W.drew.alloc (.cells #[.nilFunc, .nilFunc] 89)).heap.size) kd rfl rfl MB.out ?_
            rw [hfg.out]
            refine hK.out _ _ (KS.out _ SL.out) (fun hH2 => ?_)
            clear hK K hH
            have hH := hH2
            clear hH2
            try simp only [Act.put, List.setIfInBounds_toArray, List.set_cons_zero, List.set_cons_succ]
            refine wpAnyH_take (i := 4) (oi := ⟨_, _, _, _, _, _⟩) (v := ?_) rfl (by kernel_rfl) (by kernel_rfl) (by kernel_rfl) (fun _ _ _ h => h) (Or.inl ⟨by rfl, ?_⟩) (by assumption) ?_
            rotate_left
            · ((intro w hSw; (try dsimp only at hSw); go_simp); (try with_reducible rfl))
            try simp only [Act.put, List.setIfInBounds_toArray, List.set_cons_zero, List.set_cons_succ]
            refine wpAnyH_take (i := 5) (oi := ⟨_, _, _, _, _, _⟩) (v := ?_) rfl (by kernel_rfl) (by kernel_rfl) (by kernel_rfl) (fun _ _ _ h => h) (Or.inl ⟨by rfl, ?_⟩) (by assumption) ?_
            rotate_left
            · ((intro w hSw; (try dsimp only at hSw); go_simp); (try with_reducible rfl))
            try simp only [Act.put, List.setIfInBounds_toArray, List.set_cons_zero, List.set_cons_succ]
            refine wpAnyH_take (i := 6) (oi := ⟨_, _, _, _, _, _⟩) (v := ?_) rfl (by kernel_rfl) (by kernel_rfl) (by kernel_rfl) (fun _ _ _ h => h) (Or.inl ⟨by rfl, ?_⟩) (by assumption) ?_
            rotate_left
            · ((intro w hSw; (try dsimp only at hSw); go_simp); (try with_reducible rfl))
            try simp only [Act.put, List.setIfInBounds_toArray, List.set_cons_zero, List.set_cons_succ]
            refine wpAnyH_ready (rs := [8]) (by kernel_rfl) (by simp) ?_
            refine AllReadyH.cons (o := ⟨_, _, _, _, _, _⟩) rfl (fun K hK => ?_) AllReadyH.nil
            refine (if_pos (show Region.wanted _ _ = true by kernel_rfl)).mpr ?_
            refine wp_store_mid 89 _ _ rfl (W.drew.heap.size) 0 #[f, g] rfl rfl (there_of VB.out rfl) HRK.out ONE.out ?_
            have VC := hid9 (setAll_at VB.out [f, g] rfl)
            replace SL := hid9 (SL.out.trans ((Chg.setCells (F := fun g => g = W.drew.heap.size) (g := W.drew.heap.size) (fun _ => rfl) [f, g] 0 _ (Chg.refl _ _)).below (fun g _ hg => by have := VL.out; omega) SL.out.size))
            refine hK.out _ _ (KS.out _ SL.out) (fun hH2 => ?_)
            clear hK K hH
            have hH := hH2
            clear hH2
            try simp only [Act.put]
            refine wpAnyH_take (i := 9) (oi := ⟨_, _, _, _, _, _⟩) (v := ?_) rfl (by kernel_rfl) (by kernel_rfl) (by kernel_rfl) (fun _ _ _ h => h) (Or.inl ⟨by rfl, ?_⟩) (by assumption) ?_
            rotate_left
            · ((intro w hSw; (try dsimp only at hSw); go_simp); (try with_reducible rfl))
            try simp only [Act.put, List.setIfInBounds_toArray, List.set_cons_zero, List.set_cons_succ]
            refine wpAnyH_done (by kernel_rfl) ?_ _
            go_wp2
            go_meet
            exact ⟨W.drew.heap.size, rfl, rfl, SL.out, VC.out⟩
  case rest =>
    obtain ⟨bx, rfl, rfl, SL, VC⟩ := hcut
    replace B1 := hid9 (Below.and B1.out SL.out)
    have v0 := fun j => cell_of_cells (j := j) VC.out
    obtain ⟨rg, k0, k1, k2, k9, k10, k11, k12, k13, k14⟩ := KE.out _ SL.out
    cases h1 : inB kd 1 5
    · go_wp2
      go_ret
      exact ⟨ret_bool (by simp [rpcP, h1]), B1.out⟩
    go_wp2_with (refine wpList_load_h (by rfl) 56 _ rfl w.heap.size 0 rfl cs _ rg Try.underlying56 rfl HI.out ?_)
    refine (sizeOk_any _ _).mono ?_
    rintro e w1 ⟨rfl, hw1⟩
    subst hw1
    cases h2 : inB size 1 5
    · go_wp2
      go_ret
      exact ⟨ret_bool (by simp [rpcP, h2]), B1.out⟩
    go_wp2_with (refine wpList_load_h (by rfl) 56 _ rfl w.heap.size 0 rfl cs _ rg Try.underlying56 rfl HI.out ?_)
    refine (twoOf_any _ _ _ _).mono ?_
    rintro e w2 ⟨rfl, hw2⟩
    subst hw2
    have EP : Hid (rpcP kd fr tt te ix it cm size eo mo = ((inB fr 0 (size - 1) && (inB tt 0 (size - 1) && decide (fr ≠ tt))) && ((inB te 0 100000 && (inB ix 0 100000 && (inB it 0 100000 && inB cm 0 100000))) && (eo && ((!(kd == 5)) || mo))))) := by
      show _ = _
      unfold rpcP
      rw [h1, h2]
      simp only [Bool.true_and, Bool.and_assoc]
    cases h3 : (inB fr 0 (size - 1) && (inB tt 0 (size - 1) && decide (fr ≠ tt)))
    · go_wp2
      go_ret
      exact ⟨ret_bool (by rw [EP.out, h3]; rfl), B1.out⟩
    go_wp2_with (refine wpList_load_h (by rfl) 56 _ rfl w.heap.size 0 rfl cs _ rg Try.underlying56 rfl HI.out ?_)
    refine (T1.out _).mono ?_
    rintro e w3 ⟨rfl, b3⟩
    replace B1 := hid9 (Below.and B1.out b3)
    replace SL := hid9 (Below.and SL.out b3)
    replace VC := hid9 (step_at VC.out b3)
    clear b3 v0 rg k0 k1 k2 k9 k10 k11 k12 k13 k14
    have v0 := fun j => cell_of_cells (j := j) VC.out
    obtain ⟨rg, k0, k1, k2, k9, k10, k11, k12, k13, k14⟩ := KE.out _ SL.out
    cases h4 : (inB te 0 100000 && (inB ix 0 100000 && (inB it 0 100000 && inB cm 0 100000)))
    · go_wp2
      go_ret
      exact ⟨ret_bool (by rw [EP.out, h3, h4]; rfl), B1.out⟩
    go_wp2_with (refine wpList_load_h (by rfl) 56 _ rfl w.heap.size 0 rfl cs _ rg Try.underlying56 rfl HI.out ?_)
    refine (T2.out _ B1.out).mono ?_
    rintro e w4 ⟨rfl, b4⟩
    replace B1 := hid9 (Below.and B1.out b4)
    replace SL := hid9 (Below.and SL.out b4)
    replace VC := hid9 (step_at VC.out b4)
    clear b4 v0 rg k0 k1 k2 k9 k10 k11 k12 k13 k14
    have v0 := fun j => cell_of_cells (j := j) VC.out
    obtain ⟨rg, k0, k1, k2, k9, k10, k11, k12, k13, k14⟩ := KE.out _ SL.out
    cases h5 : eo
    · go_wp2
      go_ret
      exact ⟨ret_bool (by rw [EP.out, h3, h4, h5]; rfl), B1.out⟩
    by_cases h6 : kd = 5
    · have hg := G2.out h6
      subst hg
      have E7 : Hid (rpcP kd fr tt te ix it cm size eo mo = mo) := by show _ = _; rw [EP.out, h3, h4, h5, h6]; simp
      clear h1 h2 h3 h4 EP G1 G2
      go_wp2_with fail
      refine (M1.out _ B1.out).mono ?_
      rintro e w5 ⟨rfl, b5⟩
      replace B1 := hid9 (Below.and B1.out b5)
      go_wp2
      go_ret
      exact ⟨ret_bool E7.out.symm, B1.out⟩
    · have hg := G1.out h1 h6
      subst hg
      have E7 : Hid (rpcP kd fr tt te ix it cm size eo mo = true) := by show _ = _; rw [EP.out, h3, h4, h5]; simp [h6]
      clear h1 h2 h3 h4 EP G1 G2
      go_wp2_with fail
      refine (anyMachine_any _ _ _ _ _ _ _).mono ?_
      rintro e w5 ⟨rfl, b5⟩
      replace B1 := hid9 (Below.and B1.out b5)
      go_wp2
      go_ret
      exact ⟨ret_bool E7.out.symm, B1.out⟩

end Go.Proofs.Ytmdajbbpigbdcaa
