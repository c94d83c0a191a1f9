/-
  For every world and every list of things told the law FnExactSend returns true: Send answers as the model does, field by field, writes into no argument, and its answer owns its memory; no condition.
-/
import Derived.Test.YtkcaelfkcepdkaaGreatOfSend49
import Derived.Test.YtkcaelfkcepdkaaGreatOfSend51
import Derived.Carry
namespace Go.Proofs.YtkcaelfkcepdkaaGreat
set_option maxRecDepth 100000
set_option maxHeartbeats 8000000
section
open Go.ChangeShapes Go.WideShapes Go.ChangeAt Go.RowKit

theorem WrAt.le {n m : Nat} {w : World} {W : WrV} {D : Wd} (h : WrAt n w W D) (hm : n ≤ m) : WrAt m w W D :=
 ⟨⟨h.1.1, fun e he => NodAt.le (h.1.2 e he) hm⟩, ⟨h.2.1.1, fun e he => RpcAt.le (h.2.1.2 e he) hm⟩, h.2.2⟩
theorem arg_rpcs {H : Type} {enc : TypeId × Value → H} {W : World} {r : Reach} {b0 : Nat} {v : Value} {d : DataW H} {p : List MemPlace}
  (hv : Value.okWide Tryz.prog W r b0 23 v) (h : DataW.Trod enc Tryz.prog W 0 (fun _ => true) true 23 v d p) : ∃ (n : Nat) (es : List RpcE), LsAt rpcC (rpcAt n) W v es := by
 obtain ⟨a0, len, cap, rfl⟩ := okWide_slice Tryz.underlying23 hv
 obtain ⟨fuel, hf⟩ := h
 exact ls_of_trod (K := 15) (cs := rpcC) (At := rpcAt) (fun _ => rfl) Tryz.underlying23 Tryz.cellsW3 (by decide) rpc_of_trod hf

theorem fnExactSend_lifted (os : Os) (started : os.Started) (H : Type) (enc : TypeId × Value → H) :
  ReturnsInHanded {} Tryz.checked os 3 .any (Rows.fnExactSendSpec.pre6 enc Tryz.prog Tryz.f3 Rows.fnExactSendRow.domain false) (Rows.fnExactSendSpec.post enc Tryz.prog Tryz.f3 false true false false) := by
 refine returnsInHanded_of_change (C := Tryz.checked) Tryz.own started (by kernel_rfl) Tryz.func3
  (ChangeSpec.witness6 (enc := enc) (C := Tryz.checked) false ⟨#[], #[.agg #[.int .i64 0, .slice none 0 0, .slice none 0 0, .slice none 0 0, .slice none 0 0, .slice none 0 0], .slice none 0 0], []⟩ 8 (by kernel_rfl) (by kernel_rfl) (by kernel_rfl) (by kernel_rfl)) ?_
 intro W base args ds gs before hval0 hW _ _
 have hval : ∀ (j : Nat) t v, Tryz.f3.params[j]? = some t → args[j]? = some v → Value.okWide Tryz.prog W .any base t v := hval0
 have hW' := hW
 obtain ⟨p, q, hA0, hV, rfl, _, _⟩ := hW
 have hA : DataW.TrodAll enc Tryz.prog W 0 (fun _ => true) true Tryz.f3.params.toList args.toList ds p := hA0
 rw [Tryz.params3] at hA hval
 obtain ⟨v0, v1, d0, d1, p0, p1, rfl, rfl, rfl, h0, h1⟩ := trodAll_two hA
 obtain ⟨rfl, rfl⟩ := trodVars_none hV
 have lt0 : ∀ x ∈ p0, x.block < W.heap.size := fun x hx => hW'.lt x (by simp [hx])
 have lt1 : ∀ x ∈ p1, x.block < W.heap.size := fun x hx => hW'.lt x (by simp [hx])
 have k0 := h0
 obtain ⟨n0, V0, D0, rfl, r0, _⟩ := arg_world (hval 0 28 v0 rfl rfl) h0
 have k1 := h1
 obtain ⟨n1, es, r1⟩ := arg_rpcs (hval 1 23 v1 rfl rfl) h1
 clear hA0 hval0
 refine (fnExactSend_any (max n0 n1) V0 D0 v1 es W (r0.le (Nat.le_trans (Nat.le_max_left _ _) (Nat.le_succ _))) ⟨r1.1, fun e he => RpcAt.le (r1.2 e he) (Nat.le_trans (Nat.le_max_right _ _) (Nat.le_succ _))⟩).mono fun e W' ⟨he, bel⟩ => ?_
 subst he
 exact ⟨_, rfl, _, _, _, [], _, [], hW', trodAll_mk1 (shut_bool Tryz.underlying4 _), trodAll_mk2 (Below.trod Tryz.laidOut (by kernel_rfl) (of_decide_eq_true (by kernel_rfl)) k0 bel lt0) (Below.trod Tryz.laidOut (by kernel_rfl) (of_decide_eq_true (by kernel_rfl)) k1 bel lt1), rfl, bel.frame _, fun h => by cases h⟩

theorem fnExactSend_holds : Rows.FnExactSendSaid :=
 OpenClaim.holds_of_wide 3 Tryz.f3 rfl rfl rfl rfl rfl rfl rfl ⟨rfl, rfl, rfl, rfl, rfl⟩ rfl rfl rfl rfl rfl (by kernel_rfl) Tryz.func3 (by kernel_rfl)
  (of_decide_eq_true (by kernel_rfl)) (by unfold Func.isWrapper; rw [if_neg (of_decide_eq_false (by kernel_rfl))]; exact ⟨rfl, rfl⟩)
  (fun os started H enc _ => fnExactSend_lifted os started H enc)
end
end Go.Proofs.YtkcaelfkcepdkaaGreat
