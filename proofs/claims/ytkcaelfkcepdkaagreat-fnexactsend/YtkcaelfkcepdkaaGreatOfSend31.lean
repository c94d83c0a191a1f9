/-
  The laws' functions that write marks into rows of commands and of Leads, and look for them.
-/
import Derived.Test.YtkcaelfkcepdkaaGreatOfSend26
namespace Go.Proofs.YtkcaelfkcepdkaaGreat
set_option maxRecDepth 100000
set_option maxHeartbeats 8000000
section
open Go.RowKit

def noCmd : CmdE := (0, 0, 0, 0, 0)
def cmdMk (k : Int) : CmdE := (k, k + 1, k + 2, k + 3, k + 4)
def cmdMs (k : Int) (n : Nat) : List CmdE := (List.range n).map fun i => cmdMk (k + 5 * (i : Nat))
theorem markCmdS_any (v : Value) (es : List CmdE) (k : Int) (w : World) (ho : OwnE w 0 117 5 v es.length (es.map cmdC).flatten) (hk0 : 0 ≤ k) (hk1 : k + 5 * (es.length : Nat) ≤ 67108864) :
  Calls Tryz.prog 42 #[v, .int .i64 k] w fun e w' => e = .returned (.int .i64 (k + 5 * (es.length : Nat))) ∧ OwnE w' 0 117 5 v es.length ((cmdMs k es.length).map cmdC).flatten ∧ Chg (fun b => wrB v b) w w' := by
 by_cases hm : es.length = 0
 ·have he : es = [] := List.length_eq_zero_iff.1 hm
  subst he
  obtain ⟨a, cap, rfl⟩ := ho.slice
  have FIN : Hid (OwnE w 0 117 5 (.slice a ([] : List CmdE).length cap) 0 ((cmdMs k 0).map cmdC).flatten) := ho
  clear ho
  show Calls Tryz.prog 42 #[.slice a 0 cap, .int .i64 k] w _
  go_enter Tryz.func42, Tryz.ntmps42
  go_wp2
  go_loopw [1, 5] (fun kk i wr => i = .int .i64 0 ∧ kk = .int .i64 k ∧ wr = w) (fun _ _ _ => 0)
  case atStart => exact ⟨rfl, rfl, rfl⟩
  case round =>
   obtain ⟨rfl, rfl, rfl⟩ := hrel
   go_wp2
   go_ret
   exact ⟨ret_int (by simp), FIN.out, Chg.refl _ _⟩
 ·obtain ⟨g, cap, hvv, hgc, how⟩ : ∃ g cap, v = .slice (some ⟨g, 0, none⟩) es.length cap ∧ 0 < cap ∧ w.ownsRow 0 117 5 v es.length (es.map cmdC).flatten := by
   rcases ho with ho | ⟨h0, _⟩
   ·obtain ⟨_, ⟨e, e2⟩ | ⟨g, cap', cur, e, _, _, hle, _⟩⟩ := id ho
    ·exact absurd e2 hm
    ·exact ⟨g, cap', e, by omega, ho⟩
   ·exact absurd h0 hm
  subst hvv
  have hgw : wrB (.slice (some ⟨g, 0, none⟩) es.length cap) g := ⟨_, _, rfl, hgc⟩
  have FM : Hid (Fam (fun _ _ _ => False) (fun _ _ _ => True) (fun _ _ _ => True) g es.length) := ⟨fun _ _ _ _ _ _ _ h => h.elim, fun _ _ _ _ h => h.elim, fun _ _ _ _ _ _ _ _ _ => trivial, fun _ _ _ _ _ _ _ _ _ => trivial⟩
  have hf : (∀ i : Nat, (cmdC (cmdMk (k + 5 * (i : Nat)))).length = 5) ∧ ∀ i, (cmdC (es.getD i noCmd)).length = 5 := ⟨fun _ => rfl, fun _ => rfl⟩
  have H0 : Hid (StM (fun _ _ _ => False) (fun _ _ _ => True) (fun _ _ _ => True) (fun i : Nat => cmdC (cmdMk (k + 5 * (i : Nat)))) (fun i => cmdC (es.getD i noCmd)) 117 5 g es.length cap w 0 0 (cmdC (es.getD 0 noCmd)) w) :=
   ⟨by rw [rowH_start (cs := fun i => cmdC (es.getD i noCmd)), mapD]; exact how, rfl, fun _ _ _ _ => trivial, fun _ _ _ _ => trivial, Chg.refl _ _⟩
  have FIN : Hid (∀ W, StM (fun _ _ _ => False) (fun _ _ _ => True) (fun _ _ _ => True) (fun i : Nat => cmdC (cmdMk (k + 5 * (i : Nat)))) (fun i => cmdC (es.getD i noCmd)) 117 5 g es.length cap w es.length 0 (cmdC (es.getD es.length noCmd)) W →
    OwnE W 0 117 5 (.slice (some ⟨g, 0, none⟩) es.length cap) es.length ((cmdMs k es.length).map cmdC).flatten ∧ Chg (fun b => wrB (.slice (some ⟨g, 0, none⟩) es.length cap) b) w W) := fun W st => by
   have r := st.own
   rw [rowH_end] at r
   refine ⟨?_, st.chg.mono (fun b _ hb => ?_)⟩
   ·unfold cmdMs
    rw [List.map_map]
    exact .inl r
   ·rcases hb with rfl | ⟨_, _, _, hb⟩
    ·exact hgw
    ·exact hb.elim
  clear ho how hgw
  generalize hE : (fun i => es.getD i noCmd) = E at *
  have hE' : ∀ i, es.getD i noCmd = E i := fun i => by rw [← hE]
  simp only [hE'] at *
  clear hE hE'
  generalize ((cmdMs k es.length).map cmdC).flatten = RES at *
  generalize hmm : es.length = m at *
  clear hmm hm
  have HB : Hid (0 ≤ k ∧ k + 5 * (m : Nat) ≤ 67108864) := ⟨hk0, hk1⟩
  go_enter Tryz.func42, Tryz.ntmps42
  go_wp2
  go_loopw [1, 5] (fun kk i wr => ∃ j : Nat, j ≤ m ∧ i = .int .i64 j ∧ kk = .int .i64 (k + 5 * (j : Nat)) ∧ Hid (StM (fun _ _ _ => False) (fun _ _ _ => True) (fun _ _ _ => True) (fun i : Nat => cmdC (cmdMk (k + 5 * (i : Nat)))) (fun i => cmdC (E i)) 117 5 g m cap w j 0 (cmdC (E j)) wr)) (fun _ i _ => m - (intOf i).toNat)
  case atStart => exact ⟨0, Nat.zero_le _, rfl, by simp, H0⟩
  case round =>
   obtain ⟨j, hj, rfl, rfl, HF⟩ := hrel
   by_cases hlt : j < m
   ·have S0 := HF
    clear H0 FIN HF
    obtain ⟨a0, ha0⟩ : ∃ x : Int, x = k + 5 * (j : Nat) := ⟨_, rfl⟩
    obtain ⟨e, hej⟩ : ∃ e, E j = e := ⟨_, rfl⟩
    rw [hej] at S0
    obtain ⟨x1, h1⟩ : ∃ x : Int, x = a0 + 1 := ⟨_, rfl⟩
    obtain ⟨x2, h2⟩ : ∃ x : Int, x = a0 + 2 := ⟨_, rfl⟩
    obtain ⟨x3, h3⟩ : ∃ x : Int, x = a0 + 3 := ⟨_, rfl⟩
    obtain ⟨x4, h4⟩ : ∃ x : Int, x = a0 + 4 := ⟨_, rfl⟩
    obtain ⟨x5, h5⟩ : ∃ x : Int, x = a0 + 5 := ⟨_, rfl⟩
    have FE : Hid (((((((cmdC e).set 0 (.int .i64 a0)).set 1 (.int .i64 x1)).set 2 (.int .i64 x2)).set 3 (.int .i64 x3)).set 4 (.int .i64 x4)) = cmdC (cmdMk (k + 5 * (j : Nat)))) := by
     show _ = _
     subst h5 h4 h3 h2 h1 ha0
     rfl
    have EN : Hid (k + 5 * ((j + 1 : Nat) : Int) = x5) := by show _ = _; omega
    have CH : Hid (x1 = a0 + 1 ∧ x2 = x1 + 1 ∧ x3 = x2 + 1 ∧ x4 = x3 + 1 ∧ x5 = x4 + 1 ∧ 0 ≤ a0 ∧ x5 ≤ 67108864) := ⟨by omega, by omega, by omega, by omega, by omega, by omega, by omega⟩
    rw [← ha0]
    clear ha0 hej h1 h2 h3 h4 h5
    have b0 : 0 ≤ a0 := by have := CH.out; omega
    have b1 : a0 ≤ 67108864 := by have := CH.out; omega
    have c0 : wr.cell? ⟨g, j * 5, none⟩ = some (.int .i64 e.1) := S0.out.cell hf hlt 0 (by omega)
    have f0 : wr.frozen? ⟨g, j * 5, none⟩ = false := S0.out.frozen 0
    replace S0 := hid9c (S0.out.put FM.out hf hlt 0 (by omega) (.int .i64 a0))
    go_upto_region 6 with fail
    rw [show a0 + 1 = x1 by have := CH.out; omega]
    generalize hW0 : wr.setCell ⟨g, j * 5, none⟩ (.int .i64 a0) = W0 at *
    clear c0 f0 b0 b1 hW0
    have b0 : 0 ≤ x1 := by have := CH.out; omega
    have b1 : x1 ≤ 67108864 := by have := CH.out; omega
    have c0 : W0.cell? ⟨g, j * 5 + 1, none⟩ = some (.int .i64 e.2.1) := S0.out.cell hf hlt 1 (by omega)
    have f0 : W0.frozen? ⟨g, j * 5 + 1, none⟩ = false := S0.out.frozen 1
    replace S0 := hid9c (S0.out.put FM.out hf hlt 1 (by omega) (.int .i64 x1))
    go_upto_region 8 with fail
    rw [show x1 + 1 = x2 by have := CH.out; omega]
    generalize hW1 : W0.setCell ⟨g, j * 5 + 1, none⟩ (.int .i64 x1) = W1 at *
    clear c0 f0 b0 b1 hW1
    have b0 : 0 ≤ x2 := by have := CH.out; omega
    have b1 : x2 ≤ 67108864 := by have := CH.out; omega
    have c0 : W1.cell? ⟨g, j * 5 + 2, none⟩ = some (.int .i64 e.2.2.1) := S0.out.cell hf hlt 2 (by omega)
    have f0 : W1.frozen? ⟨g, j * 5 + 2, none⟩ = false := S0.out.frozen 2
    replace S0 := hid9c (S0.out.put FM.out hf hlt 2 (by omega) (.int .i64 x2))
    go_upto_region 10 with fail
    rw [show x2 + 1 = x3 by have := CH.out; omega]
    generalize hW2 : W1.setCell ⟨g, j * 5 + 2, none⟩ (.int .i64 x2) = W2 at *
    clear c0 f0 b0 b1 hW2
    have b0 : 0 ≤ x3 := by have := CH.out; omega
    have b1 : x3 ≤ 67108864 := by have := CH.out; omega
    have c0 : W2.cell? ⟨g, j * 5 + 3, none⟩ = some (.int .i64 e.2.2.2.1) := S0.out.cell hf hlt 3 (by omega)
    have f0 : W2.frozen? ⟨g, j * 5 + 3, none⟩ = false := S0.out.frozen 3
    replace S0 := hid9c (S0.out.put FM.out hf hlt 3 (by omega) (.int .i64 x3))
    go_upto_region 12 with fail
    rw [show x3 + 1 = x4 by have := CH.out; omega]
    generalize hW3 : W2.setCell ⟨g, j * 5 + 3, none⟩ (.int .i64 x3) = W3 at *
    clear c0 f0 b0 b1 hW3
    have b0 : 0 ≤ x4 := by have := CH.out; omega
    have b1 : x4 ≤ 67108864 := by have := CH.out; omega
    have c0 : W3.cell? ⟨g, j * 5 + 4, none⟩ = some (.int .i64 e.2.2.2.2) := S0.out.cell hf hlt 4 (by omega)
    have f0 : W3.frozen? ⟨g, j * 5 + 4, none⟩ = false := S0.out.frozen 4
    replace S0 := hid9c (S0.out.put FM.out hf hlt 4 (by omega) (.int .i64 x4))
    have FN := hid9c (S0.out.next FE.out rfl (fun _ _ _ _ _ => trivial))
    go_wp2
    go_roundw
    case rel => exact ⟨j + 1, by omega, by go_num, by rw [EN.out]; exact congrArg _ (by have := CH.out; omega), FN⟩
    case measure => simp [intOf]; omega
   ·have hjl : j = m := by omega
    subst hjl
    go_wp2
    go_ret
    exact ⟨rfl, FIN.out _ HF.out⟩

theorem heldCmdS_any (v : Value) (n : Nat) (k : Int) (w : World) (h : LsAt cmdC noAt w v (cmdMs k n)) (hk0 : 0 ≤ k) (hk1 : k + 5 * (n : Nat) ≤ 67108864) :
  Calls Tryz.prog 52 #[v, .int .i64 k] w fun e w' => e = .returned (.int .i64 (k + 5 * (n : Nat))) ∧ w' = w := by
 have hl : (cmdMs k n).length = n := by simp [cmdMs]
 obtain ⟨a, b, off, cap, rfl, hle, hmax, ha, hcell⟩ := h.parts (K := 5) (fun _ => rfl)
 rw [hl] at hle ha
 have HC : Hid (∀ i, i < n → w.rangeAt b (off + i * 5) (cmdC (cmdMk (k + 5 * (i : Nat))))) := fun i hi => by
  have := hcell w (Below.refl _ _) i (by rw [hl]; exact hi)
  simpa [cmdMs] using this
 rw [hl]
 clear h hl hcell
 unfold maxLen at hmax
 have h63 : (n : Int) ≤ 9223372036854775807 := by omega
 have HAA : Hid (0 < n → a = some ⟨b, off, none⟩) := ha
 clear ha hle hmax
 go_enter Tryz.func52, Tryz.ntmps52
 go_wp2
 go_loopw [1, 5] (fun kk i wr => ∃ j : Nat, j ≤ n ∧ i = .int .i64 j ∧ kk = .int .i64 (k + 5 * (j : Nat)) ∧ wr = w) (fun _ i _ => n - (intOf i).toNat)
 case atStart => exact ⟨0, Nat.zero_le _, rfl, by simp, rfl⟩
 case round =>
  obtain ⟨j, hj, rfl, rfl, rfl⟩ := hrel
  by_cases hlt : j < n
  ·have hal := HAA.out (by omega)
   subst hal
   have RC := HC.out j hlt
   obtain ⟨a0, ha0⟩ : ∃ x : Int, x = k + 5 * (j : Nat) := ⟨_, rfl⟩
   rw [← ha0] at RC
   obtain ⟨x1, h1⟩ : ∃ x : Int, x = a0 + 1 := ⟨_, rfl⟩
   obtain ⟨x2, h2⟩ : ∃ x : Int, x = a0 + 2 := ⟨_, rfl⟩
   obtain ⟨x3, h3⟩ : ∃ x : Int, x = a0 + 3 := ⟨_, rfl⟩
   obtain ⟨x4, h4⟩ : ∃ x : Int, x = a0 + 4 := ⟨_, rfl⟩
   obtain ⟨x5, h5⟩ : ∃ x : Int, x = a0 + 5 := ⟨_, rfl⟩
   have CE : Hid (wr.cell? ⟨b, off + j * 5, none⟩ = some (.int .i64 a0) ∧ wr.cell? ⟨b, off + j * 5 + 1, none⟩ = some (.int .i64 x1) ∧ wr.cell? ⟨b, off + j * 5 + 2, none⟩ = some (.int .i64 x2) ∧ wr.cell? ⟨b, off + j * 5 + 3, none⟩ = some (.int .i64 x3) ∧ wr.cell? ⟨b, off + j * 5 + 4, none⟩ = some (.int .i64 x4)) := by
    subst h5 h4 h3 h2 h1
    exact ⟨RC 0 _ rfl, RC 1 _ rfl, RC 2 _ rfl, RC 3 _ rfl, RC 4 _ rfl⟩
   have EN : Hid (k + 5 * ((j + 1 : Nat) : Int) = x5) := by show _ = _; omega
   have CH : Hid (x1 = a0 + 1 ∧ x2 = x1 + 1 ∧ x3 = x2 + 1 ∧ x4 = x3 + 1 ∧ x5 = x4 + 1 ∧ 0 ≤ a0 ∧ x5 ≤ 67108864) := ⟨by omega, by omega, by omega, by omega, by omega, by omega, by omega⟩
   rw [← ha0]
   clear ha0 HC RC h1 h2 h3 h4 h5
   have d0 := CE.out.1
   have b0 : 0 ≤ a0 := by have := CH.out; omega
   have b1 : a0 ≤ 67108864 := by have := CH.out; omega
   go_upto_region 7 with fail
   rw [show a0 + 1 = x1 by have := CH.out; omega]
   clear d0 b0 b1
   have d0 := CE.out.2.1
   have b0 : 0 ≤ x1 := by have := CH.out; omega
   have b1 : x1 ≤ 67108864 := by have := CH.out; omega
   go_upto_region 10 with fail
   rw [show x1 + 1 = x2 by have := CH.out; omega]
   clear d0 b0 b1
   have d0 := CE.out.2.2.1
   have b0 : 0 ≤ x2 := by have := CH.out; omega
   have b1 : x2 ≤ 67108864 := by have := CH.out; omega
   go_upto_region 13 with fail
   rw [show x2 + 1 = x3 by have := CH.out; omega]
   clear d0 b0 b1
   have d0 := CE.out.2.2.2.1
   have b0 : 0 ≤ x3 := by have := CH.out; omega
   have b1 : x3 ≤ 67108864 := by have := CH.out; omega
   go_upto_region 16 with fail
   rw [show x3 + 1 = x4 by have := CH.out; omega]
   clear d0 b0 b1
   have d0 := CE.out.2.2.2.2
   have b0 : 0 ≤ x4 := by have := CH.out; omega
   have b1 : x4 ≤ 67108864 := by have := CH.out; omega
   go_wp2
   go_roundw
   case rel => exact ⟨j + 1, by omega, by go_num, by rw [EN.out]; exact congrArg _ (by have := CH.out; omega), by trivial⟩
   case measure => simp [intOf]; omega
  ·have hjl : j = n := by omega
   subst hjl
   go_wp2
   go_ret
   exact ⟨rfl, rfl⟩

def noLead : LedE := (0, 0)
def ledMk (k : Int) : LedE := (k, k + 1)
def ledMs (k : Int) (n : Nat) : List LedE := (List.range n).map fun i => ledMk (k + 2 * (i : Nat))
theorem markLeadS_any (v : Value) (es : List LedE) (k : Int) (w : World) (ho : OwnE w 0 121 2 v es.length (es.map ledC).flatten) (hk0 : 0 ≤ k) (hk1 : k + 2 * (es.length : Nat) ≤ 67108864) :
  Calls Tryz.prog 44 #[v, .int .i64 k] w fun e w' => e = .returned (.int .i64 (k + 2 * (es.length : Nat))) ∧ OwnE w' 0 121 2 v es.length ((ledMs k es.length).map ledC).flatten ∧ Chg (fun b => wrB v b) w w' := by
 by_cases hm : es.length = 0
 ·have he : es = [] := List.length_eq_zero_iff.1 hm
  subst he
  obtain ⟨a, cap, rfl⟩ := ho.slice
  have FIN : Hid (OwnE w 0 121 2 (.slice a ([] : List LedE).length cap) 0 ((ledMs k 0).map ledC).flatten) := ho
  clear ho
  show Calls Tryz.prog 44 #[.slice a 0 cap, .int .i64 k] w _
  go_enter Tryz.func44, Tryz.ntmps44
  go_wp2
  go_loopw [1, 5] (fun kk i wr => i = .int .i64 0 ∧ kk = .int .i64 k ∧ wr = w) (fun _ _ _ => 0)
  case atStart => exact ⟨rfl, rfl, rfl⟩
  case round =>
   obtain ⟨rfl, rfl, rfl⟩ := hrel
   go_wp2
   go_ret
   exact ⟨ret_int (by simp), FIN.out, Chg.refl _ _⟩
 ·obtain ⟨g, cap, hvv, hgc, how⟩ : ∃ g cap, v = .slice (some ⟨g, 0, none⟩) es.length cap ∧ 0 < cap ∧ w.ownsRow 0 121 2 v es.length (es.map ledC).flatten := by
   rcases ho with ho | ⟨h0, _⟩
   ·obtain ⟨_, ⟨e, e2⟩ | ⟨g, cap', cur, e, _, _, hle, _⟩⟩ := id ho
    ·exact absurd e2 hm
    ·exact ⟨g, cap', e, by omega, ho⟩
   ·exact absurd h0 hm
  subst hvv
  have hgw : wrB (.slice (some ⟨g, 0, none⟩) es.length cap) g := ⟨_, _, rfl, hgc⟩
  have FM : Hid (Fam (fun _ _ _ => False) (fun _ _ _ => True) (fun _ _ _ => True) g es.length) := ⟨fun _ _ _ _ _ _ _ h => h.elim, fun _ _ _ _ h => h.elim, fun _ _ _ _ _ _ _ _ _ => trivial, fun _ _ _ _ _ _ _ _ _ => trivial⟩
  have hf : (∀ i : Nat, (ledC (ledMk (k + 2 * (i : Nat)))).length = 2) ∧ ∀ i, (ledC (es.getD i noLead)).length = 2 := ⟨fun _ => rfl, fun _ => rfl⟩
  have H0 : Hid (StM (fun _ _ _ => False) (fun _ _ _ => True) (fun _ _ _ => True) (fun i : Nat => ledC (ledMk (k + 2 * (i : Nat)))) (fun i => ledC (es.getD i noLead)) 121 2 g es.length cap w 0 0 (ledC (es.getD 0 noLead)) w) :=
   ⟨by rw [rowH_start (cs := fun i => ledC (es.getD i noLead)), mapD]; exact how, rfl, fun _ _ _ _ => trivial, fun _ _ _ _ => trivial, Chg.refl _ _⟩
  have FIN : Hid (∀ W, StM (fun _ _ _ => False) (fun _ _ _ => True) (fun _ _ _ => True) (fun i : Nat => ledC (ledMk (k + 2 * (i : Nat)))) (fun i => ledC (es.getD i noLead)) 121 2 g es.length cap w es.length 0 (ledC (es.getD es.length noLead)) W →
    OwnE W 0 121 2 (.slice (some ⟨g, 0, none⟩) es.length cap) es.length ((ledMs k es.length).map ledC).flatten ∧ Chg (fun b => wrB (.slice (some ⟨g, 0, none⟩) es.length cap) b) w W) := fun W st => by
   have r := st.own
   rw [rowH_end] at r
   refine ⟨?_, st.chg.mono (fun b _ hb => ?_)⟩
   ·unfold ledMs
    rw [List.map_map]
    exact .inl r
   ·rcases hb with rfl | ⟨_, _, _, hb⟩
    ·exact hgw
    ·exact hb.elim
  clear ho how hgw
  generalize hE : (fun i => es.getD i noLead) = E at *
  have hE' : ∀ i, es.getD i noLead = E i := fun i => by rw [← hE]
  simp only [hE'] at *
  clear hE hE'
  generalize ((ledMs k es.length).map ledC).flatten = RES at *
  generalize hmm : es.length = m at *
  clear hmm hm
  have HB : Hid (0 ≤ k ∧ k + 2 * (m : Nat) ≤ 67108864) := ⟨hk0, hk1⟩
  go_enter Tryz.func44, Tryz.ntmps44
  go_wp2
  go_loopw [1, 5] (fun kk i wr => ∃ j : Nat, j ≤ m ∧ i = .int .i64 j ∧ kk = .int .i64 (k + 2 * (j : Nat)) ∧ Hid (StM (fun _ _ _ => False) (fun _ _ _ => True) (fun _ _ _ => True) (fun i : Nat => ledC (ledMk (k + 2 * (i : Nat)))) (fun i => ledC (E i)) 121 2 g m cap w j 0 (ledC (E j)) wr)) (fun _ i _ => m - (intOf i).toNat)
  case atStart => exact ⟨0, Nat.zero_le _, rfl, by simp, H0⟩
  case round =>
   obtain ⟨j, hj, rfl, rfl, HF⟩ := hrel
   by_cases hlt : j < m
   ·have S0 := HF
    clear H0 FIN HF
    obtain ⟨a0, ha0⟩ : ∃ x : Int, x = k + 2 * (j : Nat) := ⟨_, rfl⟩
    obtain ⟨e, hej⟩ : ∃ e, E j = e := ⟨_, rfl⟩
    rw [hej] at S0
    obtain ⟨x1, h1⟩ : ∃ x : Int, x = a0 + 1 := ⟨_, rfl⟩
    obtain ⟨x2, h2⟩ : ∃ x : Int, x = a0 + 2 := ⟨_, rfl⟩
    have FE : Hid ((((ledC e).set 0 (.int .i64 a0)).set 1 (.int .i64 x1)) = ledC (ledMk (k + 2 * (j : Nat)))) := by
     show _ = _
     subst h2 h1 ha0
     rfl
    have EN : Hid (k + 2 * ((j + 1 : Nat) : Int) = x2) := by show _ = _; omega
    have CH : Hid (x1 = a0 + 1 ∧ x2 = x1 + 1 ∧ 0 ≤ a0 ∧ x2 ≤ 67108864) := ⟨by omega, by omega, by omega, by omega⟩
    rw [← ha0]
    clear ha0 hej h1 h2
    have b0 : 0 ≤ a0 := by have := CH.out; omega
    have b1 : a0 ≤ 67108864 := by have := CH.out; omega
    have c0 : wr.cell? ⟨g, j * 2, none⟩ = some (.int .i64 e.1) := S0.out.cell hf hlt 0 (by omega)
    have f0 : wr.frozen? ⟨g, j * 2, none⟩ = false := S0.out.frozen 0
    replace S0 := hid9c (S0.out.put FM.out hf hlt 0 (by omega) (.int .i64 a0))
    go_upto_region 6 with fail
    rw [show a0 + 1 = x1 by have := CH.out; omega]
    generalize hW0 : wr.setCell ⟨g, j * 2, none⟩ (.int .i64 a0) = W0 at *
    clear c0 f0 b0 b1 hW0
    have b0 : 0 ≤ x1 := by have := CH.out; omega
    have b1 : x1 ≤ 67108864 := by have := CH.out; omega
    have c0 : W0.cell? ⟨g, j * 2 + 1, none⟩ = some (.int .i64 e.2) := S0.out.cell hf hlt 1 (by omega)
    have f0 : W0.frozen? ⟨g, j * 2 + 1, none⟩ = false := S0.out.frozen 1
    replace S0 := hid9c (S0.out.put FM.out hf hlt 1 (by omega) (.int .i64 x1))
    have FN := hid9c (S0.out.next FE.out rfl (fun _ _ _ _ _ => trivial))
    go_wp2
    go_roundw
    case rel => exact ⟨j + 1, by omega, by go_num, by rw [EN.out]; exact congrArg _ (by have := CH.out; omega), FN⟩
    case measure => simp [intOf]; omega
   ·have hjl : j = m := by omega
    subst hjl
    go_wp2
    go_ret
    exact ⟨rfl, FIN.out _ HF.out⟩

theorem heldLeadS_any (v : Value) (n : Nat) (k : Int) (w : World) (h : LsAt ledC noAt w v (ledMs k n)) (hk0 : 0 ≤ k) (hk1 : k + 2 * (n : Nat) ≤ 67108864) :
  Calls Tryz.prog 54 #[v, .int .i64 k] w fun e w' => e = .returned (.int .i64 (k + 2 * (n : Nat))) ∧ w' = w := by
 have hl : (ledMs k n).length = n := by simp [ledMs]
 obtain ⟨a, b, off, cap, rfl, hle, hmax, ha, hcell⟩ := h.parts (K := 2) (fun _ => rfl)
 rw [hl] at hle ha
 have HC : Hid (∀ i, i < n → w.rangeAt b (off + i * 2) (ledC (ledMk (k + 2 * (i : Nat))))) := fun i hi => by
  have := hcell w (Below.refl _ _) i (by rw [hl]; exact hi)
  simpa [ledMs] using this
 rw [hl]
 clear h hl hcell
 unfold maxLen at hmax
 have h63 : (n : Int) ≤ 9223372036854775807 := by omega
 have HAA : Hid (0 < n → a = some ⟨b, off, none⟩) := ha
 clear ha hle hmax
 go_enter Tryz.func54, Tryz.ntmps54
 go_wp2
 go_loopw [1, 5] (fun kk i wr => ∃ j : Nat, j ≤ n ∧ i = .int .i64 j ∧ kk = .int .i64 (k + 2 * (j : Nat)) ∧ wr = w) (fun _ i _ => n - (intOf i).toNat)
 case atStart => exact ⟨0, Nat.zero_le _, rfl, by simp, rfl⟩
 case round =>
  obtain ⟨j, hj, rfl, rfl, rfl⟩ := hrel
  by_cases hlt : j < n
  ·have hal := HAA.out (by omega)
   subst hal
   have RC := HC.out j hlt
   obtain ⟨a0, ha0⟩ : ∃ x : Int, x = k + 2 * (j : Nat) := ⟨_, rfl⟩
   rw [← ha0] at RC
   obtain ⟨x1, h1⟩ : ∃ x : Int, x = a0 + 1 := ⟨_, rfl⟩
   obtain ⟨x2, h2⟩ : ∃ x : Int, x = a0 + 2 := ⟨_, rfl⟩
   have CE : Hid (wr.cell? ⟨b, off + j * 2, none⟩ = some (.int .i64 a0) ∧ wr.cell? ⟨b, off + j * 2 + 1, none⟩ = some (.int .i64 x1)) := by
    subst h2 h1
    exact ⟨RC 0 _ rfl, RC 1 _ rfl⟩
   have EN : Hid (k + 2 * ((j + 1 : Nat) : Int) = x2) := by show _ = _; omega
   have CH : Hid (x1 = a0 + 1 ∧ x2 = x1 + 1 ∧ 0 ≤ a0 ∧ x2 ≤ 67108864) := ⟨by omega, by omega, by omega, by omega⟩
   rw [← ha0]
   clear ha0 HC RC h1 h2
   have d0 := CE.out.1
   have b0 : 0 ≤ a0 := by have := CH.out; omega
   have b1 : a0 ≤ 67108864 := by have := CH.out; omega
   go_upto_region 7 with fail
   rw [show a0 + 1 = x1 by have := CH.out; omega]
   clear d0 b0 b1
   have d0 := CE.out.2
   have b0 : 0 ≤ x1 := by have := CH.out; omega
   have b1 : x1 ≤ 67108864 := by have := CH.out; omega
   go_wp2
   go_roundw
   case rel => exact ⟨j + 1, by omega, by go_num, by rw [EN.out]; exact congrArg _ (by have := CH.out; omega), by trivial⟩
   case measure => simp [intOf]; omega
  ·have hjl : j = n := by omega
   subst hjl
   go_wp2
   go_ret
   exact ⟨rfl, rfl⟩
end
end Go.Proofs.YtkcaelfkcepdkaaGreat
