/-
  The walk of the law FnExactRpcOk, over the program's contract.
  What an argument that is a list of pairs holds: opened once into a row of cells.
  What an argument that is a message, or a list of messages, holds.
  What an argument that is a tree holds: opened once into plain data.
-/
import Derived.Test.YtmdajbbpigbdcaaOfRpc9
import Derived.Test.YtmdajbbpigbdcaaOfRpc11
import Derived.Test.YtmdajbbpigbdcaaOfRpc16
import Derived.Deep.RegionHeld3
import Derived.Test.YtmdajbbpigbdcaaOfRpc1
import Derived.ProofKit
import Derived.Deep.SlicePairs
import Derived.Test.YtmdajbbpigbdcaaOfRpc2
import Derived.Lib.SmallJoins
import Derived.Test.YtmdajbbpigbdcaaOfRpc3
namespace Go.Proofs.Ytmdajbbpigbdcaa
open Go.RowKit

/-- the cells of what is told, as a row that is one cell each -/
theorem RpcAt.cells {n : Nat} {w : World} {M : RpcV} {D : Rd} (h : RpcAt n w M D) : ∃ ms : List Value, M.val = .agg ms.toArray ∧ ms.length = 15 ∧ ms.toArray.all (·.oneCell') = true := by
  obtain ⟨kd, fr, tt, te, ix, it, cm, ok, ev, ⟨⟨sl, sp, sc, sk, sb⟩, sv⟩⟩ := M
  obtain ⟨q1, q2⟩ := h
  obtain ⟨x0, e0⟩ := q1.sl
  obtain ⟨b1, y1, y2, y3, y4, y5, e1⟩ := q2.sl
  simp only [MacV.mk.injEq, TV.mk.injEq] at e0 e1
  obtain ⟨⟨f0, f1, f2, f3, f4⟩, f5⟩ := e1
  subst e0 f0 f1 f2 f3 f4 f5
  exact ⟨_, rfl, rfl, by simp [Value.oneCell']⟩
theorem rpcOkB_like {N M : RpcV} (D : Rd) (size : Int) (h : N.like M) : rpcOkB M D size = rpcOkB N D size := by
  obtain ⟨e1, e2, e3, e4, e5, e6, e7, e8⟩ := h
  unfold rpcOkB
  rw [e1, e2, e3, e4, e5, e6, e7]
theorem RpcV.like.both {N M M' : RpcV} (h : N.like M) (h' : N.like M') : M.like M' := by
  obtain ⟨a1, a2, a3, a4, a5, a6, a7, a8⟩ := h
  obtain ⟨b1, b2, b3, b4, b5, b6, b7, b8⟩ := h'
  exact ⟨a1.symm.trans b1, a2.symm.trans b2, a3.symm.trans b3, a4.symm.trans b4, a5.symm.trans b5, a6.symm.trans b6, a7.symm.trans b7, a8.symm.trans b8⟩
/-- a new struct variable that is stored into as a whole -/
theorem newAllR {w : World} {t : TypeId} {A : Array Value} {vs : List Value} (hn : A.size = vs.length) : Below w.heap.size w ((w.alloc (.cells A t)).setCells w.heap.size 0 vs) ∧ ((w.alloc (.cells A t)).setCells w.heap.size 0 vs).heap[w.heap.size]? = some (.cells vs.toArray t (0, 0)) :=
  ⟨(bel_nw w (.cells A t)).trans ((Chg.setCells (F := fun g => g = w.heap.size) (g := w.heap.size) (fun _ => rfl) vs 0 _ (Chg.refl _ _)).below (fun g _ hg => by omega) (by simp)), setAll_at (heap_alloc_new w _) vs hn⟩

theorem run_toR (args : Array Value) (w : World) : (callFunc 12 args).run Try.prog w = .ok (.enter 12 args) w := by go_simp
theorem run_eqR (args : Array Value) (w : World) : (callFunc 14 args).run Try.prog w = .ok (.enter 14 args) w := by go_simp

set_option maxRecDepth 100000 in
set_option maxHeartbeats 4000000 in
theorem fnExactRpcOk_any (n : Nat) (N : RpcV) (D : Rd) (size : Int) (w : World) (h : RpcAt n w N D) :
    Calls Try.prog 4 #[N.val, .int .i64 size] w fun e w' => e = .returned (.bool true) ∧ Below w.heap.size w w' := by
  have TT := hid9 h
  have SZ1 : Hid (∀ u, Below w.heap.size w u → Calls Try.prog 10 #[N.val, .int .i64 1048576] u fun e w' => ∃ r : Int, e = .returned (.int .i64 r) ∧ (¬ r < 0 → D.small n) ∧ Below u.heap.size u w') := fun u hu => szRpc_any n N D 1048576 u (TT.out.below hu) (by omega) (by omega)
  have TO1 : Hid (∀ u, Below w.heap.size w u → D.small n → Calls Try.prog 12 #[N.val] u fun e w' => ∃ M : RpcV, e = .returned M.val ∧ N.like M ∧ RpcAt n w' M D ∧ Below u.heap.size u w') := fun u hu hs => (toRpc_own n N D u (TT.out.below hu) hs).mono (fun e w' ⟨M, a, b, c, d⟩ => ⟨M, a, b, c.at, d⟩)
  have LK : Hid (∀ M : RpcV, N.like M → rpcOkB M D size = rpcOkB N D size) := fun M h => rpcOkB_like D size h
  have LL : Hid (∀ M M' : RpcV, N.like M → N.like M' → M.like M') := fun M M' a b => a.both b
  generalize rpcOkB N D size = bb at *
  generalize N.like = LN at *
  clear h TT
  obtain ⟨kd, fr, tt, te, ix, it, cm, ok, ev, ⟨⟨sl, sp, sc, sk, sb⟩, sv⟩⟩ := N
  replace SZ1 : Hid (∀ u, Below w.heap.size w u → Calls Try.prog 10 #[.agg #[.int .i64 kd, .int .i64 fr, .int .i64 tt, .int .i64 te, .int .i64 ix, .int .i64 it, .int .i64 cm, .bool ok, ev, .bool sl, sp, sc, sk, sb, sv], .int .i64 1048576] u fun e w' => ∃ r : Int, e = .returned (.int .i64 r) ∧ (¬ r < 0 → D.small n) ∧ Below u.heap.size u w') := SZ1
  replace TO1 : Hid (∀ u, Below w.heap.size w u → D.small n → Calls Try.prog 12 #[.agg #[.int .i64 kd, .int .i64 fr, .int .i64 tt, .int .i64 te, .int .i64 ix, .int .i64 it, .int .i64 cm, .bool ok, ev, .bool sl, sp, sc, sk, sb, sv]] u fun e w' => ∃ M : RpcV, e = .returned M.val ∧ LN M ∧ RpcAt n w' M D ∧ Below u.heap.size u w') := TO1
  have B1 : Hid (Below w.heap.size w (w.alloc (.cells #[.int .i64 kd, .int .i64 fr, .int .i64 tt, .int .i64 te, .int .i64 ix, .int .i64 it, .int .i64 cm, .bool ok, ev, .bool sl, sp, sc, sk, sb, sv] 52))) := bel_nw _ _
  have HIL : Hid ((Try.prog.info? 52).map (·.size) = some (List.length ([.int .i64 kd, .int .i64 fr, .int .i64 tt, .int .i64 te, .int .i64 ix, .int .i64 it, .int .i64 cm, .bool ok, ev, .bool sl, sp, sc, sk, sb, sv] : List Value))) := (show (Try.prog.info? 52).map (·.size) = some 15 by kernel_rfl)
  have N1 : Hid ((w.alloc (.cells #[.int .i64 kd, .int .i64 fr, .int .i64 tt, .int .i64 te, .int .i64 ix, .int .i64 it, .int .i64 cm, .bool ok, ev, .bool sl, sp, sc, sk, sb, sv] 52)).heap[w.heap.size]? = some (.cells (List.toArray ([.int .i64 kd, .int .i64 fr, .int .i64 tt, .int .i64 te, .int .i64 ix, .int .i64 it, .int .i64 cm, .bool ok, ev, .bool sl, sp, sc, sk, sb, sv] : List Value)) 52 (0, 0))) := MBox.start 52 w #[.int .i64 kd, .int .i64 fr, .int .i64 tt, .int .i64 te, .int .i64 ix, .int .i64 it, .int .i64 cm, .bool ok, ev, .bool sl, sp, sc, sk, sb, sv]
  show Calls Try.prog 4 #[.agg #[.int .i64 kd, .int .i64 fr, .int .i64 tt, .int .i64 te, .int .i64 ix, .int .i64 it, .int .i64 cm, .bool ok, ev, .bool sl, sp, sc, sk, sb, sv], .int .i64 size] w _
  go_enter Try.func4, Try.ntmps4
  go_upto_region 1 with fail
  generalize (w.alloc (.cells #[.int .i64 kd, .int .i64 fr, .int .i64 tt, .int .i64 te, .int .i64 ix, .int .i64 it, .int .i64 cm, .bool ok, ev, .bool sl, sp, sc, sk, sb, sv] 52)) = W at *
  generalize ([.int .i64 kd, .int .i64 fr, .int .i64 tt, .int .i64 te, .int .i64 ix, .int .i64 it, .int .i64 cm, .bool ok, ev, .bool sl, sp, sc, sk, sb, sv] : List Value) = cs at *
  have ra := range_of N1.out
  go_wp2_with (refine wpList_load_h (by rfl) 52 _ rfl w.heap.size 0 rfl cs _ ra Try.underlying52 rfl HIL.out ?_)
  refine (SZ1.out _ B1.out).mono ?_
  rintro e w1 ⟨r, rfl, hsm, b1⟩
  have SM := hid9 hsm
  replace N1 := hid9 (step_at N1.out b1)
  replace B1 := hid9 (Below.and B1.out b1)
  clear b1 ra hsm
  have ra := range_of N1.out
  by_cases hr : r < 0
  · go_wp2
    go_ret
    exact ⟨rfl, B1.out⟩
  · replace SM := hid9 (SM.out (by omega))
    go_wp2_with (refine wpList_load_h (by rfl) 52 _ rfl w.heap.size 0 rfl cs _ ra Try.underlying52 rfl HIL.out ?_)
    refine (TO1.out _ B1.out SM.out).mono ?_
    rintro e w2 ⟨M, rfl, hm, t1, b2⟩
    have SP : Hid (Calls Try.prog 11 #[M.val, .int .i64 size] w2 fun e w' => e = .returned (.bool bb) ∧ Below w2.heap.size w2 w') := by
      have := specRpcOk_any n M D size w2 t1 SM.out
      rw [LK.out M hm] at this
      exact this
    replace N1 := hid9 (step_at N1.out b2)
    replace B1 := hid9 (Below.and B1.out b2)
    clear hm b2 t1 ra
    generalize M.val = z1 at *
    clear M
    go_wp2_with fail
    refine SP.out.mono ?_
    rintro e w3 ⟨rfl, b3⟩
    replace N1 := hid9 (step_at N1.out b3)
    replace B1 := hid9 (Below.and B1.out b3)
    clear b3 SP
    have ra := range_of N1.out
    go_wp2_with (refine wpList_load_h (by rfl) 52 _ rfl w.heap.size 0 rfl cs _ ra Try.underlying52 rfl HIL.out ?_)
    refine (TO1.out _ B1.out SM.out).mono ?_
    rintro e w5 ⟨M, rfl, hm, t1, b5⟩
    obtain ⟨ms, hms, hml, hmo⟩ := t1.cells
    have IP : Hid (∀ u, RpcAt n u M D → Calls Try.prog 13 #[.agg ms.toArray, .int .i64 size] u fun e w' => e = .returned (.bool bb) ∧ Below u.heap.size u w') := fun u hu => by
      have := implRpcOk_any n M D size u hu
      rw [LK.out M hm, hms] at this
      exact this
    have EQ : Hid (∀ u M', LN M' → RpcAt n u M D → RpcAt n u M' D → Calls Try.prog 14 #[.agg ms.toArray, M'.val] u fun e w' => e = .returned (.bool true) ∧ Below u.heap.size u w') := fun u M' h1 h2 h3 => by
      have := eqRpc_any n M M' D u (LL.out M M' hm h1) h2 h3
      rw [hms] at this
      exact this
    have HIM : Hid ((Try.prog.info? 56).map (·.size) = some ms.length) := by
      show _ = _
      rw [hml]
      kernel_rfl
    have HIN : Hid ((Try.prog.info? 56).map (·.size) = some ms.toArray.size) := by
      show _ = _
      rw [List.size_toArray]
      exact HIM.out
    have NA := newAllR (w := w5) (t := 56) (A := #[.int .i64 0, .int .i64 0, .int .i64 0, .int .i64 0, .int .i64 0, .int .i64 0, .int .i64 0, .bool false, .slice none 0 0, .bool false, .slice none 0 0, .slice none 0 0, .slice none 0 0, .slice none 0 0, .slice none 0 0]) (vs := ms) hml.symm
    have TH : Hid (World.there (w5.alloc (.cells #[.int .i64 0, .int .i64 0, .int .i64 0, .int .i64 0, .int .i64 0, .int .i64 0, .int .i64 0, .bool false, .slice none 0 0, .bool false, .slice none 0 0, .slice none 0 0, .slice none 0 0, .slice none 0 0, .slice none 0 0] 56)) w5.heap.size 0 ms.toArray.size) := there_of (heap_alloc_new w5 _) (show 15 = ms.toArray.size by rw [List.size_toArray, hml])
    have ONE := hid9 hmo
    have X5 := hid9 NA.2
    have M5 := hid9 (t1.below NA.1)
    replace N1 := hid9 (step_at (step_at N1.out b5) NA.1)
    replace B1 := hid9 (Below.and (Below.and B1.out b5) NA.1)
    rw [hms]
    clear hms hml hmo hm t1 b5 ra NA
    go_upto_region 7 with (refine wpList_store_mid rfl 56 _ _ rfl w5.heap.size 0 ms.toArray rfl rfl TH.out HIN.out ONE.out ?_)
    clear TH
    generalize ((w5.alloc (.cells #[.int .i64 0, .int .i64 0, .int .i64 0, .int .i64 0, .int .i64 0, .int .i64 0, .int .i64 0, .bool false, .slice none 0 0, .bool false, .slice none 0 0, .slice none 0 0, .slice none 0 0, .slice none 0 0, .slice none 0 0] 56)).setCells w5.heap.size 0 ms) = W5 at *
    generalize w5.heap.size = bx at *
    have rb := range_of X5.out
    rw [List.toList_toArray] at rb
    go_wp2_with (refine wpList_load_h (by rfl) 56 _ rfl bx 0 rfl ms _ rb Try.underlying56 rfl HIM.out ?_)
    refine (IP.out _ M5.out).mono ?_
    rintro e w7 ⟨rfl, b7⟩
    replace X5 := hid9 (step_at X5.out b7)
    replace M5 := hid9 (M5.out.below b7)
    replace N1 := hid9 (step_at N1.out b7)
    replace B1 := hid9 (Below.and B1.out b7)
    clear b7 rb
    have hne : (bb != bb) = false := by cases bb <;> rfl
    go_wp2_with fail
    have KE : Hid (∀ u, Below w7.heap.size w7 u → (fun u => u.rangeAt w.heap.size 0 cs ∧ u.rangeAt bx 0 ms ∧ Hid (Below w.heap.size w u)) u) := fun u hu => ⟨range_of (step_at N1.out hu), range_of (step_at X5.out hu), Below.and B1.out hu⟩
    have RL : Hid (Below w7.heap.size w7 w7.drew) := (Below.refl _ _).drew
    refine wp_region_held_drew (S := (fun u => u.rangeAt w.heap.size 0 cs ∧ u.rangeAt bx 0 ms ∧ Hid (Below w.heap.size w u))) (by kernel_rfl) (KE.out _ RL.out) (fun hH => ?_)
    refine wpAnyH_take (i := 0) (oi := ⟨_, _, _, _, _, _⟩) (v := .agg ms.toArray) rfl (by kernel_rfl) (by kernel_rfl) (by kernel_rfl) (fun _ _ _ h => h) (yieldsIf_load_mid (by kernel_rfl) 56 _ rfl bx 0 rfl ms _ (fun _ hu => hu.2.1) Try.underlying56 rfl HIM.out) (by assumption) ?_
    try simp only [Act.put, List.setIfInBounds_toArray, List.set_cons_zero, List.set_cons_succ]
    refine wpAnyH_take (i := 1) (oi := ⟨_, _, _, _, _, _⟩) (v := .agg cs.toArray) rfl (by kernel_rfl) (by kernel_rfl) (by kernel_rfl) (fun _ _ _ h => h) (yieldsIf_load_mid (by kernel_rfl) 52 _ rfl w.heap.size 0 rfl cs _ (fun _ hu => hu.1) Try.underlying52 rfl HIL.out) (by assumption) ?_
    try simp only [Act.put, List.setIfInBounds_toArray, List.set_cons_zero, List.set_cons_succ]
    refine wpAnyH_ready (rs := [2]) (by kernel_rfl) (by simp) ?_
    refine AllReadyH.cons (o := ⟨_, _, _, _, _, _⟩) rfl (fun K hK => ?_) AllReadyH.nil
    refine (if_pos (show Region.wanted _ _ = true by kernel_rfl)).mpr ?_
    refine call_by 12 [.tmp 27] #[52] rfl run_toR _ rfl (TO1.out _ (Below.and B1.out RL.out) SM.out) ?_
    rintro e u2 ⟨M3, rfl, l3, t3, b3⟩
    have T3 := hid9 t3
    have L3 := hid9 l3
    replace RL := hid9 (Below.and RL.out b3)
    clear b3
    clear t3 l3
    refine ⟨_, rfl, ?_⟩
    refine hK.out _ _ (KE.out _ RL.out) (fun hH2 => ?_)
    clear hK K hH
    have hH := hH2
    clear hH2
    try simp only [Act.put, List.setIfInBounds_toArray, List.set_cons_zero, List.set_cons_succ]
    refine wpAnyH_ready (rs := [3]) (by kernel_rfl) (by simp) ?_
    refine AllReadyH.cons (o := ⟨_, _, _, _, _, _⟩) rfl (fun K hK => ?_) AllReadyH.nil
    refine (if_pos (show Region.wanted _ _ = true by kernel_rfl)).mpr ?_
    refine call_by 14 [.tmp 26, .tmp 28] #[56, 56] rfl run_eqR _ rfl (EQ.out _ M3 L3.out (M5.out.below RL.out) T3.out) ?_
    rintro e u3 ⟨rfl, b4⟩
    replace RL := hid9 (Below.and RL.out b4)
    clear b4
    refine ⟨_, rfl, ?_⟩
    refine hK.out _ _ (KE.out _ RL.out) (fun hH2 => ?_)
    clear hK K hH
    have hH := hH2
    clear hH2
    try simp only [Act.put, List.setIfInBounds_toArray, List.set_cons_zero, List.set_cons_succ]
    refine wpAnyH_take (i := 4) (oi := ⟨_, _, _, _, _, _⟩) (v := ?_) rfl (by kernel_rfl) (by kernel_rfl) (by kernel_rfl) (fun _ _ _ h => h) (Or.inl ⟨by rfl, ?_⟩) (by assumption) ?_
    rotate_left
    · ((intro w hSw; (try dsimp only at hSw); go_simp); (try with_reducible rfl))
    try simp only [Act.put, List.setIfInBounds_toArray, List.set_cons_zero, List.set_cons_succ]
    refine wpAnyH_done (by kernel_rfl) ?_ _
    go_wp2
    go_ret
    exact ⟨rfl, Below.and B1.out RL.out⟩

end Go.Proofs.Ytmdajbbpigbdcaa

namespace Go.Proofs.Ytmdajbbpigbdcaa
open Go.ChangeShapes Go.WideShapes Go.ChangeAt Go.RowKit Go.Deep

theorem Try.own : ownKnob Try.prog.godebug = none := by kernel_rfl
theorem Try.laidOut : laidOutB Try.prog = true := by kernel_rfl
theorem Try.cells159 : Try.prog.cellsOf 159 = 2 := by kernel_rfl
theorem Try.cells3 : Try.prog.cellsOf 3 = 1 := by kernel_rfl

end Go.Proofs.Ytmdajbbpigbdcaa

namespace Go.Proofs.Ytmdajbbpigbdcaa
open Go.ChangeShapes Go.WideShapes Go.ChangeAt Go.RowKit Go.Deep Go.Joins

theorem Try.cells112 : Try.prog.cellsOf 112 = 3 := by kernel_rfl

theorem flatM_all (l : ML) (g : Nat → Option Value) (h : ∀ i, i < l.length → g (i * 3) = some (.int .i64 (mO l i)) ∧ g (i * 3 + 1) = some (.int .i64 (mK l i)) ∧ g (i * 3 + 2) = some (.int .i64 (mV l i))) :
    ∀ j u, (flatM l)[j]? = some u → g j = some u := by
  intro j u hj
  have hjl := (List.getElem?_eq_some_iff.1 hj).1
  rw [flatM_length] at hjl
  have hi : j / 3 < l.length := by omega
  have hat := flatM_at l (j / 3) hi
  have hc := h (j / 3) hi
  rcases (show j % 3 = 0 ∨ j % 3 = 1 ∨ j % 3 = 2 by omega) with h0 | h0 | h0
  · have e : j / 3 * 3 = j := by omega
    rw [e] at hat hc
    rw [hc.1, ← hat.1, hj]
  · have e : j / 3 * 3 + 1 = j := by omega
    rw [e] at hat hc
    rw [hc.2.1, ← hat.2.1, hj]
  · have e : j / 3 * 3 + 2 = j := by omega
    rw [e] at hat hc
    rw [hc.2.2, ← hat.2.2, hj]

end Go.Proofs.Ytmdajbbpigbdcaa

namespace Go.Proofs.Ytmdajbbpigbdcaa
open Go.ChangeShapes Go.WideShapes Go.ChangeAt Go.RowKit Go.Deep Go.Joins

theorem Try.cells47 : Try.prog.cellsOf 47 = 5 := by kernel_rfl
theorem Try.cells43 : Try.prog.cellsOf 43 = 1 := by kernel_rfl
theorem Try.cells26 : Try.prog.cellsOf 26 = 1 := by kernel_rfl
theorem Try.cells44 : Try.prog.cellsOf 44 = 1 := by kernel_rfl
theorem Try.cells45 : Try.prog.cellsOf 45 = 1 := by kernel_rfl
theorem Try.cells4 : Try.prog.cellsOf 4 = 1 := by kernel_rfl

set_option maxRecDepth 100000 in
theorem arg_pairsS {H : Type} {enc : TypeId × Value → H} {W : World} {v : Value} {d : DataW H} {p : List MemPlace}
    (hv : ∃ (a0 : Option Addr) (len cap : Nat), v = .slice a0 len cap) (h : DataW.Trod enc Try.prog W 0 (fun _ => true) true 43 v d p) : ∃ l : List (Int × Int), Row W v l.length (flatP l) := by
  obtain ⟨a0, len, cap, rfl⟩ := hv
  obtain ⟨fuel, hf⟩ := h
  rcases open_slice_pairs Try.underlying43 Try.underlying159 Try.cells159 rfl rfl Try.cells3 Try.cells3 hf with ⟨hcs, _⟩ | ⟨a, len', cap', m, n, V0, V1, D0, D1, P0, P1, hcs, _, hl, hm, hmm, _, hx⟩
  · simp [Value.cells] at hcs
    obtain ⟨rfl, rfl, rfl⟩ := hcs
    exact ⟨[], none, 0, 0, 0, rfl, Nat.le_refl _, Nat.zero_le _, fun h => absurd h (Nat.lt_irrefl _), fun j u hj => by simp [flatP] at hj, fun _ => rfl⟩
  · simp [Value.cells] at hcs
    obtain ⟨rfl, rfl, rfl⟩ := hcs
    simp only [if_true] at hmm
    have hk : ∀ i, i < len → ∃ x : Int × Int, W.cell? (a.add (i * 2)) = some (.int .i64 x.1) ∧ W.cell? (a.add (i * 2 + 1)) = some (.int .i64 x.2) := by
      intro i hi
      obtain ⟨c0, c1, t0, t1⟩ := hx i (by omega)
      obtain ⟨x, e0, _, _⟩ := DataW.trod_int Try.underlying3 t0
      obtain ⟨y, e1, _, _⟩ := DataW.trod_int Try.underlying3 t1
      simp at e0 e1
      exact ⟨(x, y), by rw [c0, e0], by rw [c1, e1]⟩
    obtain ⟨f, hf'⟩ := choose_lt hk
    obtain ⟨b, off, spot⟩ := a
    have hl0 : ((List.range len).map f).length = len := by simp
    refine ⟨(List.range len).map f, some ⟨b, off, spot⟩, b, off, cap, by rw [hl0], by rw [hl0]; exact hl, hm, fun h => ?_, ?_, fun h => by cases h⟩
    · rw [hl0] at h
      have hspot : spot = none := by simpa [Addr.add] using World.cell?_spot (hf' 0 h).1
      rw [hspot]
    · intro j u hj
      have hjl := (List.getElem?_eq_some_iff.1 hj).1
      rw [flatP_length, hl0] at hjl
      have hi : j / 2 < len := by omega
      have hspot : spot = none := by simpa [Addr.add] using World.cell?_spot (hf' 0 (by omega)).1
      subst hspot
      have hat := flatP_at ((List.range len).map f) (j / 2) (by rw [hl0]; exact hi)
      have hk0 : kOf ((List.range len).map f) (j / 2) = (f (j / 2)).1 := by simp [kOf, List.getD, hi]
      have hv0 : vOf ((List.range len).map f) (j / 2) = (f (j / 2)).2 := by simp [vOf, List.getD, hi]
      rw [hk0, hv0] at hat
      have hc := hf' (j / 2) hi
      rw [add_plain, add_plain] at hc
      rcases Nat.mod_two_eq_zero_or_one j with h0 | h1
      · have e : j = j / 2 * 2 := by omega
        rw [← e] at hat hc
        rw [hj] at hat
        rw [hc.1]; exact hat.1.symm
      · have e : j = j / 2 * 2 + 1 := by omega
        rw [← e] at hat hc
        rw [hj] at hat
        rw [hc.2]; exact hat.2.symm

set_option maxRecDepth 100000 in
theorem arg_msgsS {H : Type} {enc : TypeId × Value → H} {W : World} {v : Value} {d : DataW H} {p : List MemPlace}
    (hv : ∃ (a0 : Option Addr) (len cap : Nat), v = .slice a0 len cap) (h : DataW.Trod enc Try.prog W 0 (fun _ => true) true 45 v d p) : ∃ l : ML, Row W v l.length (flatM l) := by
  obtain ⟨a0, len, cap, rfl⟩ := hv
  obtain ⟨fuel, hf⟩ := h
  rcases open_slice Try.underlying45 hf with ⟨hcs, _⟩ | ⟨a, len', cap', m, n, D, Pl, hcs, _, hl, hm, hmm, _, hx⟩
  · simp [Value.cells] at hcs
    obtain ⟨rfl, rfl, rfl⟩ := hcs
    exact ⟨[], none, 0, 0, 0, rfl, Nat.le_refl _, Nat.zero_le _, fun h => absurd h (Nat.lt_irrefl _), fun j u hj => by simp [flatM] at hj, fun _ => rfl⟩
  · simp [Value.cells] at hcs
    obtain ⟨rfl, rfl, rfl⟩ := hcs
    simp only [if_true] at hmm
    have hk : ∀ i, i < len → ∃ x : Int × Int × Int, W.cell? (a.add (i * 3)) = some (.int .i64 x.1) ∧ W.cell? (a.add (i * 3 + 1)) = some (.int .i64 x.2.1) ∧ W.cell? (a.add (i * 3 + 2)) = some (.int .i64 x.2.2) := by
      intro i hi
      obtain ⟨cs', h1, h2⟩ := hx i (by omega)
      rw [Try.cells112] at h1
      obtain ⟨_, hlen, hcell⟩ := World.cells?_some h1
      obtain ⟨y0, y1, y2, n', hx', _, t0, t1, t2⟩ := trod_struct3 Try.underlying112 h2
      have e0 := hcell 0 (by omega)
      have e1 := hcell 1 (by omega)
      have e2 := hcell 2 (by omega)
      rw [add_add] at e0 e1 e2
      match cs', hlen with
      | [c0, c1, c2], _ =>
        simp [Try.cells3] at t0 t1 t2
        obtain ⟨x0, q0, _, _⟩ := DataW.trod_int Try.underlying3 t0
        obtain ⟨x1, q1, _, _⟩ := DataW.trod_int Try.underlying3 t1
        obtain ⟨x2, q2, _, _⟩ := DataW.trod_int Try.underlying3 t2
        simp at q0 q1 q2
        exact ⟨(x0, x1, x2), by rw [← q0]; simpa using e0, by rw [← q1]; simpa using e1, by rw [← q2]; simpa using e2⟩
    obtain ⟨f, hf'⟩ := choose_lt hk
    obtain ⟨b, off, spot⟩ := a
    have hl0 : ((List.range len).map f).length = len := by simp
    have hsp : 0 < len → spot = none := fun h => by simpa [Addr.add] using World.cell?_spot (hf' 0 h).1
    refine ⟨(List.range len).map f, some ⟨b, off, spot⟩, b, off, cap, by rw [hl0], by rw [hl0]; exact hl, hm, fun h => ?_, ?_, fun h => by cases h⟩
    · rw [hl0] at h
      rw [hsp h]
    · refine flatM_all _ (fun j => W.cell? ⟨b, off + j, none⟩) (fun i hi => ?_)
      rw [hl0] at hi
      have hspot := hsp (by omega)
      subst hspot
      have hc := hf' i hi
      rw [add_plain, add_plain, add_plain] at hc
      have a1 : mO ((List.range len).map f) i = (f i).1 := by simp [mO, List.getD, hi]
      have a2 : mK ((List.range len).map f) i = (f i).2.1 := by simp [mK, List.getD, hi]
      have a3 : mV ((List.range len).map f) i = (f i).2.2 := by simp [mV, List.getD, hi]
      rw [a1, a2, a3]
      exact hc

set_option maxRecDepth 100000 in
theorem arg_intsS {H : Type} {enc : TypeId × Value → H} {W : World} {fuel : Nat} {c : Value} {y : DataW H × List MemPlace}
    (h : DataW.trod enc Try.prog W 0 (fun _ => true) true fuel 26 [c] = some y) : ∃ l : List Int, Row W c l.length (flatI l) := by
  rcases open_slice1 Try.underlying26 Try.cells3 h with ⟨hcs, _⟩ | ⟨a, len, cap, m, n, V, D, Pl, hcs, _, hl, hm, hmm, _, hx⟩
  · simp at hcs
    subst hcs
    exact ⟨[], none, 0, 0, 0, rfl, Nat.le_refl _, Nat.zero_le _, fun h => absurd h (Nat.lt_irrefl _), fun j u hj => by simp [flatI] at hj, fun _ => rfl⟩
  · simp at hcs
    subst hcs
    simp only [if_true] at hmm
    have hk : ∀ i, i < len → ∃ x : Int, W.cell? (a.add i) = some (.int .i64 x) := by
      intro i hi
      obtain ⟨c0, t0⟩ := hx i (by omega)
      obtain ⟨x, e0, _, _⟩ := DataW.trod_int Try.underlying3 t0
      simp at e0
      exact ⟨x, by rw [c0, e0]⟩
    obtain ⟨f, hf'⟩ := choose_lt hk
    obtain ⟨b, off, spot⟩ := a
    have hl0 : ((List.range len).map f).length = len := by simp
    have hsp : 0 < len → spot = none := fun h => by simpa [Addr.add] using World.cell?_spot (hf' 0 h)
    refine ⟨(List.range len).map f, some ⟨b, off, spot⟩, b, off, cap, by rw [hl0], by rw [hl0]; exact hl, hm, fun h => ?_, ?_, fun h => by cases h⟩
    · rw [hl0] at h
      rw [hsp h]
    · intro j u hj
      have hjl := (List.getElem?_eq_some_iff.1 hj).1
      rw [flatI_length, hl0] at hjl
      have hspot := hsp (by omega)
      subst hspot
      have hc := hf' j hjl
      rw [add_plain] at hc
      rw [flatI_at _ _ (by rw [hl0]; exact hjl)] at hj
      have e : iAt ((List.range len).map f) j = f j := by simp [iAt, List.getD, hjl]
      rw [e] at hj
      rw [hc, hj]

theorem slice_of {H : Type} {enc : TypeId × Value → H} {W : World} {fuel : Nat} {t e : TypeId} {c : Value} {y : DataW H × List MemPlace} (ht : Try.prog.underlying t = some (.slice e))
    (h : DataW.trod enc Try.prog W 0 (fun _ => true) true fuel t [c] = some y) : ∃ (a0 : Option Addr) (len cap : Nat), c = .slice a0 len cap := by
  rcases open_slice ht h with ⟨hcs, _⟩ | ⟨a, len, cap, m, n, D, Pl, hcs, _⟩
  · simp at hcs; exact ⟨_, _, _, hcs⟩
  · simp at hcs; exact ⟨_, _, _, hcs⟩

theorem trees_all (l : List TV) (g : Nat → Option Value) (h : ∀ i, i < l.length → g (i * 5) = some (.bool (tvAt l i).lf) ∧ g (i * 5 + 1) = some (tvAt l i).p ∧ g (i * 5 + 2) = some (tvAt l i).c ∧ g (i * 5 + 3) = some (tvAt l i).k ∧ g (i * 5 + 4) = some (tvAt l i).b) :
    ∀ j u, (flatT l)[j]? = some u → g j = some u := by
  intro j u hj
  have hjl := (List.getElem?_eq_some_iff.1 hj).1
  rw [flatT_length] at hjl
  have hi : j / 5 < l.length := by omega
  have hat := flatT_at l (j / 5) hi
  have hc := h (j / 5) hi
  rcases (show j % 5 = 0 ∨ j % 5 = 1 ∨ j % 5 = 2 ∨ j % 5 = 3 ∨ j % 5 = 4 by omega) with h0 | h0 | h0 | h0 | h0
  · have e : j / 5 * 5 = j := by omega
    rw [e] at hat hc
    rw [hc.1, ← hat.1, hj]
  · have e : j / 5 * 5 + 1 = j := by omega
    rw [e] at hat hc
    rw [hc.2.1, ← hat.2.1, hj]
  · have e : j / 5 * 5 + 2 = j := by omega
    rw [e] at hat hc
    rw [hc.2.2.1, ← hat.2.2.1, hj]
  · have e : j / 5 * 5 + 3 = j := by omega
    rw [e] at hat hc
    rw [hc.2.2.2.1, ← hat.2.2.2.1, hj]
  · have e : j / 5 * 5 + 4 = j := by omega
    rw [e] at hat hc
    rw [hc.2.2.2.2, ← hat.2.2.2.2, hj]

set_option maxRecDepth 100000 in
theorem tree_of_trod {H : Type} {enc : TypeId × Value → H} {W : World} : ∀ (fuel : Nat) (cs : List Value) (y : DataW H × List MemPlace),
    DataW.trod enc Try.prog W 0 (fun _ => true) true fuel 47 cs = some y → ∃ (x : TV) (T : Tr), cs = x.cells ∧ TreeAt fuel W x T := by
  intro fuel
  induction fuel using Nat.strongRecOn with
  | ind fuel ih =>
  intro cs y h
  obtain ⟨xs, n, rfl, -, hl, hlen, hf⟩ := DataW.trod_struct Try.underlying47 h
  rw [Try.cells47] at hl
  match cs, hl with
  | [c0, c1, c2, c3, c4], _ =>
  match xs, hlen with
  | [y0, y1, y2, y3, y4], _ =>
  have t0 := hf 0 _ rfl
  have t1 := hf 1 _ rfl
  have t2 := hf 2 _ rfl
  have t3 := hf 3 _ rfl
  have t4 := hf 4 _ rfl
  simp [Try.cells4, Try.cells43, Try.cells26, Try.cells44, Try.cells45] at t0 t1 t2 t3 t4
  obtain ⟨bl, e0, _⟩ := DataW.trod_bool Try.underlying4 t0
  simp at e0
  subst e0
  obtain ⟨l1, r1⟩ := arg_pairsS (d := y1.1) (p := y1.2) (slice_of Try.underlying43 t1) ⟨n, by
    obtain ⟨_, _, _, e⟩ := slice_of Try.underlying43 t1
    subst e
    exact t1⟩
  obtain ⟨l2, r2⟩ := arg_intsS t2
  obtain ⟨l4, r4⟩ := arg_msgsS (d := y4.1) (p := y4.2) (slice_of Try.underlying45 t4) ⟨n, by
    obtain ⟨_, _, _, e⟩ := slice_of Try.underlying45 t4
    subst e
    exact t4⟩
  have hk : ∃ ts : List Tr, TreesAt n W c3 ts := by
    rcases DataW.trod_slice Try.underlying44 t3 with ⟨hcs, _⟩ | ⟨a, len, cap, elems, rest, n', rfl, hcs, _, _, hl', hm, hlen', hel, _, _⟩
    · simp at hcs
      subst hcs
      exact ⟨[], [], rfl, ⟨none, 0, 0, 0, rfl, Nat.le_refl _, Nat.zero_le _, fun h => absurd h (Nat.lt_irrefl _), fun j u hj => by simp [flatT] at hj, fun _ => rfl⟩, fun i hi => absurd hi (Nat.not_lt_zero _)⟩
    · simp at hcs
      subst hcs
      have hx : ∀ i, i < len → ∃ q : TV × Tr, W.cells? 0 (a.add (i * 5)) 5 = some q.1.cells ∧ TreeAt n' W q.1 q.2 := by
        intro i hi
        have key := hel i hi
        rw [Try.cells47, List.getElem?_eq_getElem (by omega)] at key
        obtain ⟨cs', k1, k2⟩ := Option.bind_eq_some_iff.1 key
        obtain ⟨x, T, rfl, ht⟩ := ih n' (by omega) cs' _ k2
        exact ⟨(x, T), k1, ht⟩
      have hx2 : ∃ f : Nat → TV × Tr, ∀ i, i < len → W.cells? 0 (a.add (i * 5)) 5 = some (f i).1.cells ∧ TreeAt n' W (f i).1 (f i).2 := by
        classical
        refine ⟨fun i => if hi : i < len then Classical.choose (hx i hi) else (noTV, noTr), fun i hi => ?_⟩
        simp only [dif_pos hi]
        exact Classical.choose_spec (hx i hi)
      obtain ⟨f, hf'⟩ := hx2
      have hcell : ∀ i, i < len → ∀ j (hj : j < 5), W.cell? ((a.add (i * 5)).add j) = (f i).1.cells[j]? := by
        intro i hi j hj
        obtain ⟨_, hlen, hc⟩ := World.cells?_some (hf' i hi).1
        exact hc j (by omega)
      obtain ⟨b, off, spot⟩ := a
      have hsp : 0 < len → spot = none := fun h => by
        have := hcell 0 h 0 (by omega)
        simp only [TV.cells, List.getElem?_cons_zero] at this
        simpa [Addr.add] using World.cell?_spot this
      refine ⟨(List.range len).map fun i => (f i).2, (List.range len).map fun i => (f i).1, by simp, ⟨some ⟨b, off, spot⟩, b, off, cap, by simp, by simpa using hl', hm, fun h => ?_, ?_, fun h => by cases h⟩, fun i hi => ?_⟩
      · rw [hsp (by simpa using h)]
      · refine trees_all _ (fun j => W.cell? ⟨b, off + j, none⟩) (fun i hi => ?_)
        have hi' : i < len := by simpa using hi
        have hspot := hsp (by omega)
        subst hspot
        have e : tvAt ((List.range len).map fun i => (f i).1) i = (f i).1 := by simp [tvAt, List.getD, hi']
        rw [e]
        have g0 := hcell i hi' 0 (by omega)
        have g1 := hcell i hi' 1 (by omega)
        have g2 := hcell i hi' 2 (by omega)
        have g3 := hcell i hi' 3 (by omega)
        have g4 := hcell i hi' 4 (by omega)
        simp only [add_plain, TV.cells] at g0 g1 g2 g3 g4
        exact ⟨by simpa using g0, by simpa [Nat.add_assoc] using g1, by simpa [Nat.add_assoc] using g2, by simpa [Nat.add_assoc] using g3, by simpa [Nat.add_assoc] using g4⟩
      · have hi' : i < len := by simpa using hi
        have e : tvAt ((List.range len).map fun i => (f i).1) i = (f i).1 := by simp [tvAt, List.getD, hi']
        have e2 : ((List.range len).map fun i => (f i).2).getD i noTr = (f i).2 := by simp [List.getD, hi']
        rw [e, e2]
        exact (hf' i hi').2.up
  obtain ⟨ts, hts⟩ := hk
  exact ⟨⟨bl, c1, c2, c3, c4⟩, ⟨bl, l1, l2, ts, l4⟩, rfl, TreeAt.mk rfl r1 r2 r4 hts⟩

end Go.Proofs.Ytmdajbbpigbdcaa
