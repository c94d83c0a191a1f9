/-
  The laws' function that looks for marks in a row of Rpcs.
-/
import Derived.Test.YtkcaelfkcepdkaaGreatOfSend29
namespace Go.Proofs.YtkcaelfkcepdkaaGreat
set_option maxRecDepth 100000
set_option maxHeartbeats 8000000
section
open Go.RowKit

theorem heldRpcS_any (n : Nat) (v : Value) (es : List RpcE) (k : Int) (w : World) (h : LsAt rpcC (rpcAt (n + 1)) w v (rpcMs (n + 1) k es)) (hk0 : 0 ≤ k) (hk1 : k + (sumE (rpcK (n + 1)) es es.length : Nat) ≤ 67108864) :
  Calls Tryz.prog 51 #[v, .int .i64 k] w fun e w' => e = .returned (.int .i64 (k + (sumE (rpcK (n + 1)) es es.length : Nat))) ∧ w' = w := by
 have hl : (rpcMs (n + 1) k es).length = es.length := by simp [rpcMs]
 have hat : ∀ i, i < es.length → rpcAt (n + 1) w (rpcMk (n + 1) (k + (sumE (rpcK (n + 1)) es i : Nat)) (es.getD i noRpc)) := fun i hi => h.2 _ (List.mem_map.2 ⟨i, List.mem_range.2 hi, rfl⟩)
 obtain ⟨a, b, off, cap, rfl, hle, hmax, ha, hcell⟩ := h.parts (K := 15) (fun _ => rfl)
 rw [hl] at hle ha
 have HC : Hid (∀ i, i < es.length → w.rangeAt b (off + i * 15) (rpcC (rpcMk (n + 1) (k + (sumE (rpcK (n + 1)) es i : Nat)) (es.getD i noRpc)))) := fun i hi => by
  have := hcell w (Below.refl _ _) i (by rw [hl]; exact hi)
  simpa [rpcMs] using this
 have MS : Hid (∀ i, i < es.length → sumE (rpcK (n + 1)) es (i + 1) = sumE (rpcK (n + 1)) es i + rpcK (n + 1) (es.getD i noRpc)) := fun i hi => sumE_getD _ noRpc es i hi
 have ML : Hid (∀ i, i ≤ es.length → sumE (rpcK (n + 1)) es i ≤ sumE (rpcK (n + 1)) es es.length) := fun i hi => sumE_mono _ noRpc es i _ hi (Nat.le_refl _)
 have M0 : Hid (sumE (rpcK (n + 1)) es 0 = 0) := by show _ = _; simp [sumE]
 have HA : Hid _ := hat
 rw [hl]
 clear h hat hl hcell
 generalize hE : (fun i => es.getD i noRpc) = E at *
 have hE' : ∀ i, es.getD i noRpc = E i := fun i => by rw [← hE]
 simp only [hE'] at *
 clear hE hE'
 generalize hTOT : sumE (rpcK (n + 1)) es es.length = TOT at *
 generalize sumE (rpcK (n + 1)) es = fo at *
 unfold maxLen at hmax
 have h63 : (es.length : Int) ≤ 9223372036854775807 := by omega
 generalize es.length = m at *
 have HAA : Hid (0 < m → a = some ⟨b, off, none⟩) := ha
 clear ha hle hmax
 go_enter Tryz.func51, Tryz.ntmps51
 go_wp2
 go_loopw [1, 5] (fun kk i wr => ∃ j : Nat, j ≤ m ∧ i = .int .i64 j ∧ kk = .int .i64 (k + (fo j : Nat)) ∧ wr = w) (fun _ i _ => m - (intOf i).toNat)
 case atStart => exact ⟨0, Nat.zero_le _, rfl, by rw [M0.out]; simp, rfl⟩
 case round =>
  obtain ⟨j, hj, rfl, rfl, rfl⟩ := hrel
  by_cases hlt : j < m
  ·have hal := HAA.out (by omega)
   subst hal
   have hms := MS.out j hlt
   have hml := ML.out (j + 1) (by omega)
   have WT := HA.out j hlt
   have RC := HC.out j hlt
   clear HA HC ML M0
   obtain ⟨e, hej⟩ : ∃ e, E j = e := ⟨_, rfl⟩
   obtain ⟨a0, ha0⟩ : ∃ x : Int, x = k + (fo j : Nat) := ⟨_, rfl⟩
   rw [hej, ← ha0] at WT RC
   rw [hej] at hms
   have hT1 : mkT (n + 1) e.2.T = 2 * e.2.T.pairs.length + e.2.T.cuts.length + mkTs n e.2.T.kids + 3 * e.2.T.buf.length := mkT_parts n _
   have hK : rpcK (n + 1) e = 9 + 6 * e.2.l.length + mkT (n + 1) e.2.T + 4 * e.2.d.length := rfl
   have g1 : rk1 a0 e = a0 + 8 + 6 * e.2.l.length := rfl
   have g2 : rk2 (n + 1) a0 e = rk1 a0 e + 1 + (mkT (n + 1) e.2.T : Nat) := rfl
   obtain ⟨x1, h1⟩ : ∃ x : Int, x = a0 + 1 := ⟨_, rfl⟩
   obtain ⟨x2, h2⟩ : ∃ x : Int, x = a0 + 2 := ⟨_, rfl⟩
   obtain ⟨x3, h3⟩ : ∃ x : Int, x = a0 + 3 := ⟨_, rfl⟩
   obtain ⟨x4, h4⟩ : ∃ x : Int, x = a0 + 4 := ⟨_, rfl⟩
   obtain ⟨x5, h5⟩ : ∃ x : Int, x = a0 + 5 := ⟨_, rfl⟩
   obtain ⟨x6, h6⟩ : ∃ x : Int, x = a0 + 6 := ⟨_, rfl⟩
   obtain ⟨x7, h7⟩ : ∃ x : Int, x = a0 + 7 := ⟨_, rfl⟩
   obtain ⟨x8, h8⟩ : ∃ x : Int, x = a0 + 8 := ⟨_, rfl⟩
   obtain ⟨x9, h9⟩ : ∃ x : Int, x = rk1 a0 e := ⟨_, rfl⟩
   obtain ⟨x10, h10⟩ : ∃ x : Int, x = rk1 a0 e + 1 := ⟨_, rfl⟩
   obtain ⟨x11, h11⟩ : ∃ x : Int, x = rk1 a0 e + 1 + 2 * (e.2.T.pairs.length : Int) := ⟨_, rfl⟩
   obtain ⟨x12, h12⟩ : ∃ x : Int, x = rk1 a0 e + 1 + 2 * (e.2.T.pairs.length : Int) + e.2.T.cuts.length := ⟨_, rfl⟩
   obtain ⟨x13, h13⟩ : ∃ x : Int, x = rk1 a0 e + 1 + 2 * (e.2.T.pairs.length : Int) + e.2.T.cuts.length + (mkTs n e.2.T.kids : Nat) := ⟨_, rfl⟩
   obtain ⟨x14, h14⟩ : ∃ x : Int, x = rk2 (n + 1) a0 e := ⟨_, rfl⟩
   obtain ⟨x15, h15⟩ : ∃ x : Int, x = rk2 (n + 1) a0 e + 4 * (e.2.d.length : Int) := ⟨_, rfl⟩
   have EN : Hid (k + (fo (j + 1) : Nat) = x15) := by show _ = _; omega
   obtain ⟨p1, ⟨pt1, pd1⟩⟩ := WT
   obtain ⟨-, t2, t3, t4, t5⟩ := pt1.parts
   have C0 : Hid (Calls Tryz.prog 90 #[e.1.ev, .int .i64 x8] wr fun e' u' => e' = .returned (.int .i64 x9) ∧ u' = wr) := by
    subst h15 h14 h13 h12 h11 h10 h9 h8 h7 h6 h5 h4 h3 h2 h1
    have z : Row wr e.1.ev (marksE (a0 + 8) e.2.l.length).length (flatE (marksE (a0 + 8) e.2.l.length)) := p1
    rw [marksE_length] at z
    refine (heldEntryS_any e.1.ev _ _ wr z (by omega) (by omega) (by omega)).mono ?_
    rintro e' u' ⟨y1, y2⟩
    exact ⟨y1.trans (ret_int (by omega)), y2⟩
   have C1 : Hid (Calls Tryz.prog 91 #[e.1.s.x.p, .int .i64 x10] wr fun e' u' => e' = .returned (.int .i64 x11) ∧ u' = wr) := by
    subst h15 h14 h13 h12 h11 h10 h9 h8 h7 h6 h5 h4 h3 h2 h1
    have z : Row wr e.1.s.x.p (marksP (rk1 a0 e + 1) e.2.T.pairs.length).length (flatP (marksP (rk1 a0 e + 1) e.2.T.pairs.length)) := t2
    rw [marksP_length] at z
    refine (heldPairS_l e.1.s.x.p _ _ wr z (by omega) (by omega) (by omega)).mono ?_
    rintro e' u' ⟨y1, y2⟩
    exact ⟨y1.trans (ret_int (by omega)), y2⟩
   have C2 : Hid (Calls Tryz.prog 92 #[e.1.s.x.c, .int .i64 x11] wr fun e' u' => e' = .returned (.int .i64 x12) ∧ u' = wr) := by
    subst h15 h14 h13 h12 h11 h10 h9 h8 h7 h6 h5 h4 h3 h2 h1
    have z : Row wr e.1.s.x.c (marksI (rk1 a0 e + 1 + 2 * (e.2.T.pairs.length : Int)) e.2.T.cuts.length).length (flatI (marksI (rk1 a0 e + 1 + 2 * (e.2.T.pairs.length : Int)) e.2.T.cuts.length)) := t3
    rw [marksI_length] at z
    refine (heldIntS_s e.1.s.x.c _ _ wr z (by omega) (by omega) (by omega)).mono ?_
    rintro e' u' ⟨y1, y2⟩
    exact ⟨y1.trans (ret_int (by omega)), y2⟩
   have C3 : Hid (Calls Tryz.prog 93 #[e.1.s.x.k, .int .i64 x12] wr fun e' u' => e' = .returned (.int .i64 x13) ∧ u' = wr) := by
    subst h15 h14 h13 h12 h11 h10 h9 h8 h7 h6 h5 h4 h3 h2 h1
    have z : TreesAt n wr e.1.s.x.k (markTs n (rk1 a0 e + 1 + 2 * (e.2.T.pairs.length : Int) + e.2.T.cuts.length) e.2.T.kids) := t5
    refine (heldTS_any n e.1.s.x.k e.2.T.kids _ wr z (by omega) (by omega)).mono ?_
    rintro e' u' ⟨y1, y2⟩
    exact ⟨y1.trans (ret_int (by omega)), y2⟩
   have C4 : Hid (Calls Tryz.prog 94 #[e.1.s.x.b, .int .i64 x13] wr fun e' u' => e' = .returned (.int .i64 x14) ∧ u' = wr) := by
    subst h15 h14 h13 h12 h11 h10 h9 h8 h7 h6 h5 h4 h3 h2 h1
    have z : Row wr e.1.s.x.b (marksM (rk1 a0 e + 1 + 2 * (e.2.T.pairs.length : Int) + e.2.T.cuts.length + (mkTs n e.2.T.kids : Nat)) e.2.T.buf.length).length (flatM (marksM (rk1 a0 e + 1 + 2 * (e.2.T.pairs.length : Int) + e.2.T.cuts.length + (mkTs n e.2.T.kids : Nat)) e.2.T.buf.length)) := t4
    rw [marksM_length] at z
    refine (heldMsgS_any e.1.s.x.b _ _ wr z (by omega) (by omega) (by omega)).mono ?_
    rintro e' u' ⟨y1, y2⟩
    exact ⟨y1.trans (ret_int (by omega)), y2⟩
   have C5 : Hid (Calls Tryz.prog 53 #[e.1.s.v, .int .i64 x14] wr fun e' u' => e' = .returned (.int .i64 x15) ∧ u' = wr) := by
    subst h15 h14 h13 h12 h11 h10 h9 h8 h7 h6 h5 h4 h3 h2 h1
    have z : Row wr e.1.s.v (marksD (rk2 (n + 1) a0 e) e.2.d.length).length (flatD (marksD (rk2 (n + 1) a0 e) e.2.d.length)) := pd1
    rw [marksD_length] at z
    refine (heldDoneS_any e.1.s.v _ _ wr z (by omega) (by omega) (by omega)).mono ?_
    rintro e' u' ⟨y1, y2⟩
    exact ⟨y1.trans (ret_int (by omega)), y2⟩
   have CE : Hid (wr.cell? ⟨b, off + j * 15, none⟩ = some (.int .i64 a0) ∧ wr.cell? ⟨b, off + j * 15 + 1, none⟩ = some (.int .i64 x1) ∧ wr.cell? ⟨b, off + j * 15 + 2, none⟩ = some (.int .i64 x2) ∧ wr.cell? ⟨b, off + j * 15 + 3, none⟩ = some (.int .i64 x3) ∧ wr.cell? ⟨b, off + j * 15 + 4, none⟩ = some (.int .i64 x4) ∧ wr.cell? ⟨b, off + j * 15 + 5, none⟩ = some (.int .i64 x5) ∧ wr.cell? ⟨b, off + j * 15 + 6, none⟩ = some (.int .i64 x6) ∧ wr.cell? ⟨b, off + j * 15 + 7, none⟩ = some (.bool (x7 % 3 == 0)) ∧ wr.cell? ⟨b, off + j * 15 + 8, none⟩ = some (e.1.ev) ∧ wr.cell? ⟨b, off + j * 15 + 9, none⟩ = some (.bool (x9 % 3 == 0)) ∧ wr.cell? ⟨b, off + j * 15 + 10, none⟩ = some (e.1.s.x.p) ∧ wr.cell? ⟨b, off + j * 15 + 11, none⟩ = some (e.1.s.x.c) ∧ wr.cell? ⟨b, off + j * 15 + 12, none⟩ = some (e.1.s.x.k) ∧ wr.cell? ⟨b, off + j * 15 + 13, none⟩ = some (e.1.s.x.b) ∧ wr.cell? ⟨b, off + j * 15 + 14, none⟩ = some (e.1.s.v)) := by
    subst h15 h14 h13 h12 h11 h10 h9 h8 h7 h6 h5 h4 h3 h2 h1
    exact ⟨RC 0 _ rfl, RC 1 _ rfl, RC 2 _ rfl, RC 3 _ rfl, RC 4 _ rfl, RC 5 _ rfl, RC 6 _ rfl, RC 7 _ rfl, RC 8 _ rfl, RC 9 _ rfl, RC 10 _ rfl, RC 11 _ rfl, RC 12 _ rfl, RC 13 _ rfl, RC 14 _ rfl⟩
   have HB : Hid (0 ≤ a0 ∧ x15 ≤ 67108864) := ⟨by omega, by omega⟩
   have CH : Hid (x1 = a0 + 1 ∧ x2 = x1 + 1 ∧ x3 = x2 + 1 ∧ x4 = x3 + 1 ∧ x5 = x4 + 1 ∧ x6 = x5 + 1 ∧ x7 = x6 + 1 ∧ x8 = x7 + 1 ∧ x8 ≤ x9 ∧ x10 = x9 + 1 ∧ x10 ≤ x11 ∧ x11 ≤ x12 ∧ x12 ≤ x13 ∧ x13 ≤ x14 ∧ x14 ≤ x15) := ⟨by omega, by omega, by omega, by omega, by omega, by omega, by omega, by omega, by omega, by omega, by omega, by omega, by omega, by omega, by omega⟩
   rw [← ha0]
   clear hT1 hK g1 g2 hms hml MS p1 pt1 pd1 t2 t3 t4 t5 RC
   clear h15 h14 h13 h12 h11 h10 h9 h8 h7 h6 h5 h4 h3 h2 h1 ha0 hej
   have d0 := CE.out.1
   have b0 : 0 ≤ a0 := by have := CH.out; have := HB.out; omega
   have b1 : a0 ≤ 67108864 := by have := CH.out; have := HB.out; omega
   go_upto_region 7 with fail
   rw [show a0 + 1 = x1 by have := CH.out; omega]
   clear d0 b0 b1
   have d0 := CE.out.2.1
   have b0 : 0 ≤ x1 := by have := CH.out; have := HB.out; omega
   have b1 : x1 ≤ 67108864 := by have := CH.out; have := HB.out; omega
   go_upto_region 10 with fail
   rw [show x1 + 1 = x2 by have := CH.out; omega]
   clear d0 b0 b1
   have d0 := CE.out.2.2.1
   have b0 : 0 ≤ x2 := by have := CH.out; have := HB.out; omega
   have b1 : x2 ≤ 67108864 := by have := CH.out; have := HB.out; omega
   go_upto_region 13 with fail
   rw [show x2 + 1 = x3 by have := CH.out; omega]
   clear d0 b0 b1
   have d0 := CE.out.2.2.2.1
   have b0 : 0 ≤ x3 := by have := CH.out; have := HB.out; omega
   have b1 : x3 ≤ 67108864 := by have := CH.out; have := HB.out; omega
   go_upto_region 16 with fail
   rw [show x3 + 1 = x4 by have := CH.out; omega]
   clear d0 b0 b1
   have d0 := CE.out.2.2.2.2.1
   have b0 : 0 ≤ x4 := by have := CH.out; have := HB.out; omega
   have b1 : x4 ≤ 67108864 := by have := CH.out; have := HB.out; omega
   go_upto_region 19 with fail
   rw [show x4 + 1 = x5 by have := CH.out; omega]
   clear d0 b0 b1
   have d0 := CE.out.2.2.2.2.2.1
   have b0 : 0 ≤ x5 := by have := CH.out; have := HB.out; omega
   have b1 : x5 ≤ 67108864 := by have := CH.out; have := HB.out; omega
   go_upto_region 22 with fail
   rw [show x5 + 1 = x6 by have := CH.out; omega]
   clear d0 b0 b1
   have d0 := CE.out.2.2.2.2.2.2.1
   have b0 : 0 ≤ x6 := by have := CH.out; have := HB.out; omega
   have b1 : x6 ≤ 67108864 := by have := CH.out; have := HB.out; omega
   go_upto_region 25 with fail
   rw [show x6 + 1 = x7 by have := CH.out; omega]
   clear d0 b0 b1
   have d0 := CE.out.2.2.2.2.2.2.2.1
   have b0 : 0 ≤ x7 := by have := CH.out; have := HB.out; omega
   have b1 : x7 ≤ 67108864 := by have := CH.out; have := HB.out; omega
   have hne : (((x7 % 3 == 0)) != (x7 % 3 == 0)) = false := by simp
   go_upto_region 28 with fail
   rw [show x7 + 1 = x8 by have := CH.out; omega]
   clear d0 b0 b1 hne
   have d0 := CE.out.2.2.2.2.2.2.2.2.1
   have b0 : 0 ≤ x8 := by have := CH.out; have := HB.out; omega
   have b1 : x8 ≤ 67108864 := by have := CH.out; have := HB.out; omega
   have b2 : ¬ x9 < 0 := by have := CH.out; have := HB.out; omega
   go_wp2_with fail
   refine C0.out.mono ?_
   rintro e1 w1 ⟨rfl, hw1⟩
   subst hw1
   go_upto_region 31 with fail
   clear d0 b0 b1 b2 C0
   have d0 := CE.out.2.2.2.2.2.2.2.2.2.1
   have b0 : 0 ≤ x9 := by have := CH.out; have := HB.out; omega
   have b1 : x9 ≤ 67108864 := by have := CH.out; have := HB.out; omega
   have hne : (((x9 % 3 == 0)) != (x9 % 3 == 0)) = false := by simp
   go_upto_region 34 with fail
   rw [show x9 + 1 = x10 by have := CH.out; omega]
   clear d0 b0 b1 hne
   have d0 := CE.out.2.2.2.2.2.2.2.2.2.2.1
   have b0 : 0 ≤ x10 := by have := CH.out; have := HB.out; omega
   have b1 : x10 ≤ 67108864 := by have := CH.out; have := HB.out; omega
   have b2 : ¬ x11 < 0 := by have := CH.out; have := HB.out; omega
   go_wp2_with fail
   refine C1.out.mono ?_
   rintro e1 w1 ⟨rfl, hw1⟩
   subst hw1
   go_upto_region 37 with fail
   clear d0 b0 b1 b2 C1
   have d0 := CE.out.2.2.2.2.2.2.2.2.2.2.2.1
   have b0 : 0 ≤ x11 := by have := CH.out; have := HB.out; omega
   have b1 : x11 ≤ 67108864 := by have := CH.out; have := HB.out; omega
   have b2 : ¬ x12 < 0 := by have := CH.out; have := HB.out; omega
   go_wp2_with fail
   refine C2.out.mono ?_
   rintro e1 w1 ⟨rfl, hw1⟩
   subst hw1
   go_upto_region 40 with fail
   clear d0 b0 b1 b2 C2
   have d0 := CE.out.2.2.2.2.2.2.2.2.2.2.2.2.1
   have b0 : 0 ≤ x12 := by have := CH.out; have := HB.out; omega
   have b1 : x12 ≤ 67108864 := by have := CH.out; have := HB.out; omega
   have b2 : ¬ x13 < 0 := by have := CH.out; have := HB.out; omega
   go_wp2_with fail
   refine C3.out.mono ?_
   rintro e1 w1 ⟨rfl, hw1⟩
   subst hw1
   go_upto_region 43 with fail
   clear d0 b0 b1 b2 C3
   have d0 := CE.out.2.2.2.2.2.2.2.2.2.2.2.2.2.1
   have b0 : 0 ≤ x13 := by have := CH.out; have := HB.out; omega
   have b1 : x13 ≤ 67108864 := by have := CH.out; have := HB.out; omega
   have b2 : ¬ x14 < 0 := by have := CH.out; have := HB.out; omega
   go_wp2_with fail
   refine C4.out.mono ?_
   rintro e1 w1 ⟨rfl, hw1⟩
   subst hw1
   go_upto_region 46 with fail
   clear d0 b0 b1 b2 C4
   have d0 := CE.out.2.2.2.2.2.2.2.2.2.2.2.2.2.2
   have b0 : 0 ≤ x14 := by have := CH.out; have := HB.out; omega
   have b1 : x14 ≤ 67108864 := by have := CH.out; have := HB.out; omega
   have b2 : ¬ x15 < 0 := by have := CH.out; have := HB.out; omega
   go_wp2_with fail
   refine C5.out.mono ?_
   rintro e1 w1 ⟨rfl, hw1⟩
   subst hw1
   go_wp2
   go_roundw
   case rel => exact ⟨j + 1, by omega, by go_num, by rw [EN.out], by trivial⟩
   case measure => simp [intOf]; omega
  ·have hjl : j = m := by omega
   subst hjl
   go_wp2
   go_ret
   exact ⟨ret_int (by rw [hTOT]), rfl⟩
end
end Go.Proofs.YtkcaelfkcepdkaaGreat
