/-
  slices.Values at a list of pairs: what it yields.
-/
import Derived.Test.YtccdleafkhnfmaaGreatRng
import Derived.Test.YtccdleafkhnfmaaGreatMSpec
namespace Go.Proofs.YtccdleafkhnfmaaGreat
open Go.RowKit Go.Shelf

attribute [local go_sem] Oper.semAt_some

def encP (p : Int × Int) : Array Value := #[.agg #[.int .i64 p.1, .int .i64 p.2]]

theorem Cl.alloc {α : Type} {X : World → Nat → Prop} {J : List α → World → Prop} (h : Cl X J) {s : List α} {W : World} (hj : J s W) (o : Obj) : J s (W.alloc o) ∧ Kx X W (W.alloc o) := by
  have := h.kx hj (chg_alloc W o)
  exact ⟨this.1, this.2.1⟩
theorem take_pre (l : PL) (j : Nat) (h : j < l.length) : l.take j ++ [(kOf l j, vOf l j)] <+: l := by
  rw [← take_succP l j h]
  exact List.take_prefix _ _

set_option maxRecDepth 100000 in
set_option maxHeartbeats 2000000 in
theorem values1_in (B : Nat) (v : Value) (l : PL) (w : World) (hB : Boxed w B 33 v) (hv : w.ownsRow 0 53 2 v l.length (flatP l)) (hl : l.length ≤ 4194304) :
    Gives Tryz.prog 56 #[.pointer (some ⟨B, 0, none⟩)] encP (fun g => g = B ∨ v.ownBlock = some g) l w := by
  intro n lp X J Jx W hc hD hJ hJx hY h0
  obtain ⟨a, cap, rfl⟩ := owns_val hv
  have BW : Hid (Boxed W B 33 (.slice a l.length cap)) := (hc.block B hB.lt (fun h => h (.inl rfl))).trans hB
  have OW : Hid (W.ownsRow 0 53 2 (.slice a l.length cap) l.length (flatP l)) := owns_chg hv hc (fun g hg h => h (.inr hg))
  have DX : Hid (∀ g, (Value.slice a l.length cap).ownBlock = some g → ¬ X W g) := fun g hg => hD g (.inr hg)
  have hcap : cap ≤ maxLen := by
    obtain ⟨_, _, _, c', h1, _, h3, _⟩ := Row.of_owns OW.out
    cases h1
    exact h3
  unfold maxLen at hcap
  have c0 := BW.out.cell
  have HY : Hid (∀ pre x W1, J pre W1 → pre ++ [x] <+: l → YieldAt Fence.wide (n - 1) Tryz.prog lp (encP x) W1 fun e W' =>
      (e = .returned (.bool true) ∧ J (pre ++ [x]) W' ∧ Kx X W1 W') ∨ (e = .returned (.bool false) ∧ Jx (pre ++ [x]) W' ∧ Kx X W1 W')) := hY
  clear hY hc hB hv hD
  show CallsIn Fence.wide n Tryz.prog 56 #[.func (.yield lp) #[] #[], .pointer (some ⟨B, 0, none⟩)] W _
  refine callsIn_of_wp Tryz.func56 rfl trivial ?_ rfl
  simp only [Tryz.ntmps56, List.size_toArray, List.length_cons, List.length_nil, Nat.reduceAdd, Nat.reduceSub, Array.replicate_succ, Array.replicate_zero, List.push_toArray, List.append_toArray, List.nil_append, List.cons_append]
  gi_wp2
  gi_loopw [7] (fun i wr => ∃ j : Nat, j ≤ l.length ∧ i = .int .i64 j ∧ Hid (J (l.take j) wr) ∧ Hid (Kx X W wr)) (fun i _ => l.length - (intOf i).toNat)
  case atStart => exact ⟨0, Nat.zero_le _, rfl, h0, Kx.refl _ _⟩
  case round =>
    obtain ⟨j, hj, rfl, HJ, HK⟩ := hrel
    by_cases hlt : j < l.length
    · have OR : Hid (wr.ownsRow 0 53 2 (.slice a l.length cap) l.length (flatP l)) := owns_chg OW.out HK.out.chg DX.out
      obtain ⟨a', bv, off, cap', hav, hcap', hmax, ha, ck, cv2⟩ := (Row.of_owns OR.out).pairs
      simp only [Value.slice.injEq, true_and] at hav
      obtain ⟨rfl, rfl⟩ := hav
      have hal := ha (by omega)
      subst hal
      have t0 := ck j hlt
      have t1 := cv2 j hlt
      have AL : Hid _ := hJ.alloc HJ.out (.cells #[.int .i64 (kOf l j), .int .i64 (vOf l j)] 53)
      have PR : Hid (l.take j ++ [(kOf l j, vOf l j)] <+: l) := take_pre l j hlt
      have TS : Hid (l.take (j + 1) = l.take j ++ [(kOf l j, vOf l j)]) := take_succP l j hlt
      obtain ⟨fn, tmps, assign, body, hy, hR⟩ := HY.out (l.take j) (kOf l j, vOf l j) (wr.alloc (.cells #[.int .i64 (kOf l j), .int .i64 (vOf l j)] 53)) AL.out.1 PR.out
      dsimp only [encP] at hy
      clear ck cv2 ha hmax c0
      gi_wp2
      refine ⟨fun h => (by cases h), hR.mono ?_⟩
      rintro e W3 (⟨rfl, hJ3, hk3⟩ | ⟨rfl, hJx3, hk3⟩)
      · have FIN : Hid (J (l.take (j + 1)) W3 ∧ Kx X W W3) := ⟨by rw [TS.out]; exact hJ3, (HK.out.trans AL.out.2).trans hk3⟩
        clear hJ3 hk3 hR hy t0 t1
        gi_wp2
        go_roundw
        case rel => exact ⟨j + 1, by omega, by go_num, FIN.out.1, FIN.out.2⟩
        case measure => simp [intOf]; omega
      · have FIN : Hid ((∃ pre, pre <+: l ∧ Jx pre W3) ∧ Kx X W W3) := ⟨⟨_, PR.out, hJx3⟩, (HK.out.trans AL.out.2).trans hk3⟩
        clear hJx3 hk3 hR hy t0 t1
        gi_wp2
        refine bodyPost_ret (results_none rfl _ _ _) rfl ?_
        exact ⟨⟨_, rfl⟩, .inr FIN.out.1, FIN.out.2⟩
    · have hjj : j = l.length := by omega
      have FIN : Hid (J l wr ∧ Kx X W wr) := ⟨by have := HJ.out; rw [hjj, List.take_of_length_le (Nat.le_refl _)] at this; exact this, HK.out⟩
      gi_wp2
      go_end0
      exact ⟨⟨_, rfl⟩, .inl FIN.out.1, FIN.out.2⟩

end Go.Proofs.YtccdleafkhnfmaaGreat
