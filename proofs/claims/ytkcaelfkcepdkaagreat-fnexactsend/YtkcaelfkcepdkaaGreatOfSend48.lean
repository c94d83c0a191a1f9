/-
  The model's Send.
-/
import Derived.Test.YtkcaelfkcepdkaaGreatOfSend45
import Derived.Test.YtkcaelfkcepdkaaGreatOfSend44
namespace Go.Proofs.YtkcaelfkcepdkaaGreat
set_option maxRecDepth 100000
set_option maxHeartbeats 8000000
section
open Go.RowKit

theorem specSend_any (n : Nat) (W : WrV) (D : Wd) (lo hi : Nat) (w : World) (h : WrI n w lo hi W D) (hs : D.small n) (vl : Value) (es : List RpcE) (hl : LsAt rpcC (rpcAt n) w vl es) (hes : ∀ e ∈ es, e.2.small n) (hn : es.length ≤ 1048576) :
  Calls Tryz.prog 7 #[W.val, vl] w fun e w' => ∃ (V : WrV) (E : Wd) (F : Nat → Prop), e = .returned V.val ∧ W.sz = V.sz ∧ (D.sent es).like E ∧ WrS (nodV n) (rpcX n) w' F V E ∧ (∀ g, F g → w.heap.size ≤ g ∧ g < w'.heap.size) ∧ Below w.heap.size w w' := by
 have hat := h.at
 obtain ⟨sz, nv, rv, cv, av, lv⟩ := W
 obtain ⟨zs, has⟩ : ∃ zs : List Value, zs = [.int .i64 sz, nv, rv, cv, av, lv] := ⟨_, rfl⟩
 have hal : zs.length = 6 := by rw [has]; rfl
 have VW : (WrV.mk sz nv rv cv av lv).val = .agg zs.toArray := by rw [has]
 have HN := hq hn
 have HSR := hq hs.r
 have HRT := hq hl
 obtain ⟨a1, b1, off1, p1, rfl, hc1, hm1, ha1, rg1⟩ := hl.parts (K := 15) (fun _ => rfl)
 have HA1 := hq ha1
 have RG1 := hq rg1
 have CR : Hid (∀ j (hj : j < es.length) (u : World), Below w.heap.size w u → Calls Tryz.prog 28 #[es[j].1.val] u fun e w' => ∃ M : RpcV, e = .returned M.val ∧ es[j].1.like M ∧ RpcF n w' (fun g => u.heap.size ≤ g) M es[j].2 ∧ Below u.heap.size u w') := fun j hj u hu =>
  l12Rpc_any n _ _ u ((HRT.out.2 _ (List.getElem_mem hj)).below hu) (hes _ (List.getElem_mem hj))
 have ON2 : Hid (∀ j (hj : j < es.length), (rpcC es[j]).toArray.all (·.oneCell') = true) := fun j hj => RpcAt.ones (HRT.out.2 _ (List.getElem_mem hj))
 clear HRT hl hes hn ha1 rg1 hc1 hm1
 have ONA : Hid (zs.toArray.all (·.oneCell') = true) := by rw [has]; exact hat.ones6
 have CP := hq (fun (u : World) (hu : Below w.heap.size w u) => l12CopyW_any n ⟨sz, nv, rv, cv, av, lv⟩ D lo hi u (h.below hu) hs)
 rw [VW] at CP ⊢
 clear VW has h
 have b0 : Below w.heap.size w ((w.alloc (.cells zs.toArray 37)).alloc (.cells #[.int .i64 0, .slice none 0 0, .slice none 0 0, .slice none 0 0, .slice none 0 0, .slice none 0 0] 37)) := Below.and (bel_nw _ _) (bel_nw _ _)
 have m0 := MBox.step (MBox.start 37 w zs.toArray) (bel_nw _ (.cells #[.int .i64 0, .slice none 0 0, .slice none 0 0, .slice none 0 0, .slice none 0 0, .slice none 0 0] 37))
 have m1 := MBox.start 37 (w.alloc (.cells zs.toArray 37)) #[.int .i64 0, .slice none 0 0, .slice none 0 0, .slice none 0 0, .slice none 0 0, .slice none 0 0]
 simp only [World.size_alloc] at m1
 have B0 := hq b0
 have RA : Hid (((w.alloc (.cells zs.toArray 37)).alloc (.cells #[.int .i64 0, .slice none 0 0, .slice none 0 0, .slice none 0 0, .slice none 0 0, .slice none 0 0] 37)).rangeAt w.heap.size 0 zs) := by have := range_of m0; rw [List.toList_toArray] at this; exact this
 have HIA : Hid ((Tryz.prog.info? 37).map (·.size) = some zs.length) := by show _ = _; rw [hal]; exact (show (Tryz.prog.info? 37).map (·.size) = some 6 by kernel_rfl)
 have M1 := hq m1
 have ZZ : Hid (w.heap.size + 2 = ((w.alloc (.cells zs.toArray 37)).alloc (.cells #[.int .i64 0, .slice none 0 0, .slice none 0 0, .slice none 0 0, .slice none 0 0, .slice none 0 0] 37)).heap.size) := by show _ = _; simp
 clear b0 m0 m1
 go_enter Tryz.func7, Tryz.ntmps7
 go_upto_region 1 with fail
 generalize ((w.alloc (.cells zs.toArray 37)).alloc (.cells #[.int .i64 0, .slice none 0 0, .slice none 0 0, .slice none 0 0, .slice none 0 0, .slice none 0 0] 37)) = V0 at *
 go_cut [5] (fun s5 wx => ∃ (X : Nat) (c0 c1 c2 c3 c4 : Value) (E : Wd), s5 = .pointer (some ⟨X, 0, none⟩) ∧ Hid (D.like E) ∧ Hid (WrS (nodV n) (rpcX n) wx (fun g => V0.heap.size ≤ g ∧ g < X) ⟨sz, c0, c1, c2, c3, c4⟩ E) ∧ Hid (MBox 37 wx X #[.int .i64 sz, c0, c1, c2, c3, c4]) ∧ Hid (Below V0.heap.size V0 wx) ∧ Hid (V0.heap.size ≤ X ∧ X < wx.heap.size))
 case first =>
  go_wp2_with (refine wpList_load_mid rfl 37 _ rfl w.heap.size 0 rfl zs _ RA.out Tryz.underlying37 rfl HIA.out ?_)
  refine (CP.out V0 B0.out).mono ?_
  rintro e w1 ⟨V, E, rfl, hsz, hl, hW, hb⟩
  replace hW := WrW.s hW
  obtain ⟨sz1, c0, c1, c2, c3, c4⟩ := V
  simp only at hsz
  subst hsz
  obtain ⟨cs, hcs⟩ : ∃ cs : List Value, cs = [.int .i64 sz, c0, c1, c2, c3, c4] := ⟨_, rfl⟩
  have hcl : cs.length = 6 := by rw [hcs]; rfl
  have ONC : Hid (cs.toArray.all (·.oneCell') = true) := by rw [hcs]; exact (WrS.at (nodV_at n) (rpcX_at n) hW).ones6
  have VC : (WrV.mk sz c0 c1 c2 c3 c4).val = .agg cs.toArray := by rw [hcs]
  rw [VC]
  have HI2 : Hid ((Tryz.prog.info? 37).map (·.size) = some cs.toArray.size) := by show _ = _; rw [List.size_toArray, hcl]; exact (show (Tryz.prog.info? 37).map (·.size) = some 6 by kernel_rfl)
  have Y := hq (MBox.start 37 w1 #[.int .i64 0, .slice none 0 0, .slice none 0 0, .slice none 0 0, .slice none 0 0, .slice none 0 0])
  have TH : Hid ((w1.alloc (.cells #[.int .i64 0, .slice none 0 0, .slice none 0 0, .slice none 0 0, .slice none 0 0, .slice none 0 0] 37)).there w1.heap.size 0 cs.toArray.size) := there_of Y.out (show 6 = cs.toArray.size by rw [List.size_toArray, hcl])
  have ba : Below w1.heap.size w1 (w1.alloc (.cells #[.int .i64 0, .slice none 0 0, .slice none 0 0, .slice none 0 0, .slice none 0 0, .slice none 0 0] 37)) := bel_nw _ _
  have GC : Chg (fun g => g = w1.heap.size) (w1.alloc (.cells #[.int .i64 0, .slice none 0 0, .slice none 0 0, .slice none 0 0, .slice none 0 0, .slice none 0 0] 37)) ((w1.alloc (.cells #[.int .i64 0, .slice none 0 0, .slice none 0 0, .slice none 0 0, .slice none 0 0, .slice none 0 0] 37)).setCells w1.heap.size 0 cs) := Chg.setCells (F := fun g => g = w1.heap.size) (g := w1.heap.size) (fun _ => rfl) cs 0 _ (Chg.refl _ _)
  have XF : Hid (MBox 37 ((w1.alloc (.cells #[.int .i64 0, .slice none 0 0, .slice none 0 0, .slice none 0 0, .slice none 0 0, .slice none 0 0] 37)).setCells w1.heap.size 0 cs) w1.heap.size cs.toArray) := setAll_at Y.out cs (by rw [hcl]; rfl)
  have B3 : Below w1.heap.size w1 ((w1.alloc (.cells #[.int .i64 0, .slice none 0 0, .slice none 0 0, .slice none 0 0, .slice none 0 0, .slice none 0 0] 37)).setCells w1.heap.size 0 cs) := ba.trans (GC.below (fun g _ hg => by omega) ba.size)
  have B4 : Hid (Below V0.heap.size V0 ((w1.alloc (.cells #[.int .i64 0, .slice none 0 0, .slice none 0 0, .slice none 0 0, .slice none 0 0, .slice none 0 0] 37)).setCells w1.heap.size 0 cs)) := hb.trans (B3.mono hb.size)
  have S1 : Hid (V0.heap.size ≤ w1.heap.size ∧ w1.heap.size < ((w1.alloc (.cells #[.int .i64 0, .slice none 0 0, .slice none 0 0, .slice none 0 0, .slice none 0 0, .slice none 0 0] 37)).setCells w1.heap.size 0 cs).heap.size) := ⟨hb.size, by have := GC.size; simp only [World.size_alloc] at this; show _ < _; omega⟩
  have W3 := hq (hW.below (nodV_k n) (rpcX_k n) B3)
  have HL := hq hl
  have XF2 : Hid (MBox 37 ((w1.alloc (.cells #[.int .i64 0, .slice none 0 0, .slice none 0 0, .slice none 0 0, .slice none 0 0, .slice none 0 0] 37)).setCells w1.heap.size 0 cs) w1.heap.size #[.int .i64 sz, c0, c1, c2, c3, c4]) := by have := XF.out; rw [show cs.toArray = #[.int .i64 sz, c0, c1, c2, c3, c4] by rw [hcs]] at this; exact this
  have FIN : Hid (∃ (X : Nat) (c0 c1 c2 c3 c4 : Value) (E : Wd), Value.pointer (some ⟨w1.heap.size, 0, none⟩) = .pointer (some ⟨X, 0, none⟩) ∧ Hid (D.like E) ∧ Hid (WrS (nodV n) (rpcX n) ((w1.alloc (.cells #[.int .i64 0, .slice none 0 0, .slice none 0 0, .slice none 0 0, .slice none 0 0, .slice none 0 0] 37)).setCells w1.heap.size 0 cs) (fun g => V0.heap.size ≤ g ∧ g < X) ⟨sz, c0, c1, c2, c3, c4⟩ E) ∧ Hid (MBox 37 ((w1.alloc (.cells #[.int .i64 0, .slice none 0 0, .slice none 0 0, .slice none 0 0, .slice none 0 0, .slice none 0 0] 37)).setCells w1.heap.size 0 cs) X #[.int .i64 sz, c0, c1, c2, c3, c4]) ∧ Hid (Below V0.heap.size V0 ((w1.alloc (.cells #[.int .i64 0, .slice none 0 0, .slice none 0 0, .slice none 0 0, .slice none 0 0, .slice none 0 0] 37)).setCells w1.heap.size 0 cs)) ∧ Hid (V0.heap.size ≤ X ∧ X < ((w1.alloc (.cells #[.int .i64 0, .slice none 0 0, .slice none 0 0, .slice none 0 0, .slice none 0 0, .slice none 0 0] 37)).setCells w1.heap.size 0 cs).heap.size)) := ⟨w1.heap.size, c0, c1, c2, c3, c4, E, rfl, HL.out, W3.out, XF2.out, B4.out, S1.out⟩
  clear XF XF2 W3 HL B4 S1 GC B3 hcs VC hl hb hW Y ba B0 M1 ZZ RA HIA CP ONA
  go_wp2_with (refine wpList_store_mid rfl 37 _ _ rfl w1.heap.size 0 cs.toArray rfl rfl TH.out HI2.out ONC.out ?_)
  go_meet
  exact FIN.out
 case rest =>
  clear RA HIA CP ONA
  obtain ⟨X, c0, c1, c2, c3, c4, E, rfl, LK, G0, BX0, BW0, XM⟩ := hcut
  obtain ⟨K, hK⟩ : ∃ K : Nat, K = min es.length (30 - E.rs.length) := ⟨_, rfl⟩
  have hK2 : Hid (es.take (30 - E.rs.length) = es.take K) := by
   show _ = _
   rw [hK]
   rcases Nat.le_total es.length (30 - E.rs.length) with e | e
   ·rw [List.take_of_length_le e, List.take_of_length_le (by omega)]
   ·rw [Nat.min_eq_right e]
  have K3 : Hid (K ≤ es.length) := by show _ ≤ _; omega
  have K5 : Hid (∀ j, j < K → E.rs.length + j < 30) := fun j hj => by omega
  have K6 : Hid (K < es.length → ¬ E.rs.length + K < 30) := fun hj => by omega
  have HRN : Hid (E.rs.length ≤ 1048576) := by rw [← LK.out.r.1]; exact HSR.out
  have hen : es.length ≤ 1048576 := HN.out
  clear hK HSR
  obtain ⟨i0, hi0, hz0, hz1, hz2⟩ := info_parts (show (Tryz.prog.info? 87).map (fun i => (i.zero, i.size, i.bytes)) = some (some (.agg #[.int .i64 0, .int .i64 0, .int .i64 0, .int .i64 0, .int .i64 0, .int .i64 0, .int .i64 0, .bool false, .slice none 0 0, .bool false, .slice none 0 0, .slice none 0 0, .slice none 0 0, .slice none 0 0, .slice none 0 0]), 15, 216) by kernel_rfl)
  have BS := hq (fun (ks : List Value) (hl : ks.length = 15) => builtSlice_one (P := Tryz.prog) 87 i0 _ 15 hi0 hz0 hz1 (by decide) (by decide) ks hl)
  go_wp2_with fail
  go_loopw [6] (fun i wr => ∃ (j : Nat) (v : Value) (gs : List RpcE) (F : Nat → Prop), j ≤ K ∧ i = .int .i64 j ∧ Hid (LsLk rpcLk (es.take j) gs) ∧ Hid (WrS (nodV n) (rpcX n) wr F ⟨sz, c0, v, c2, c3, c4⟩ ⟨E.ns, E.rs ++ gs, E.cs, E.ds, E.ls⟩) ∧ Hid (∀ g, F g → V0.heap.size ≤ g ∧ g < wr.heap.size ∧ g ≠ X) ∧ Hid (MBox 37 wr X #[.int .i64 sz, c0, v, c2, c3, c4]) ∧ Hid (Below V0.heap.size V0 wr ∧ X < wr.heap.size))
   (fun i _ => K - (intOf i).toNat)
  case atStart => exact ⟨0, _, [], (fun g => V0.heap.size ≤ g ∧ g < X), Nat.zero_le _, rfl, ⟨by simp, fun i h => by simp at h⟩, by rw [List.append_nil]; exact G0.out, fun g hg => ⟨hg.1, by have := hg.2; have := XM.out.2; omega, by have := hg.2; omega⟩, BX0.out, ⟨BW0.out, XM.out.2⟩⟩
  case round =>
   clear G0 BX0 BW0
   obtain ⟨j, v, gs, F, hj, rfl, LR, G, FX, BX, BW⟩ := hrel
   have LM : Hid (gs.length = j) := by have := LR.out.1; rw [List.length_take] at this; have := K3.out; show _ = _; omega
   have LT : Hid ((E.rs ++ gs).length = E.rs.length + j) := by have := LM.out; show _ = _; rw [List.length_append]; omega
   by_cases hlt : j < K
   ·have hlt2 : j < es.length := by have := K3.out; omega
    have hi2 : (j : Int) < (es.length : Int) := by omega
    have hi3 : ((E.rs ++ gs).length : Int) < 30 := by have := LT.out; have := K5.out j hlt; omega
    have hal := HA1.out (by omega)
    subst hal
    obtain ⟨ks, hks⟩ : ∃ ks : List Value, ks = rpcC es[j] := ⟨_, rfl⟩
    have hkl : ks.length = 15 := by rw [hks]; rfl
    have BWW := hq (Below.and B0.out BW.out.1)
    have RU : Hid (∀ u, Below w.heap.size w u → u.rangeAt b1 (off1 + j * 15) ks) := by rw [hks]; exact fun u hu => RG1.out u hu j hlt2
    have VE : es[j].1.val = .agg ks.toArray := by rw [hks]; rfl
    have CJ : Hid (∀ u : World, Below w.heap.size w u → Calls Tryz.prog 28 #[.agg ks.toArray] u fun e w' => ∃ M : RpcV, e = .returned M.val ∧ es[j].1.like M ∧ RpcF n w' (fun g => u.heap.size ≤ g) M es[j].2 ∧ Below u.heap.size u w') := by have h := CR.out j hlt2; rw [VE] at h; exact h
    clear VE hks
    have HM1 : Hid ((Tryz.prog.info? 87).map (·.size) = some ks.length) := by show _ = _; rw [hkl]; exact (show (Tryz.prog.info? 87).map (·.size) = some 15 by kernel_rfl)
    obtain ⟨a9, q9, hv9⟩ := OwnE.slice G.out.net.1
    simp only at hv9
    generalize hLN : (E.rs ++ gs).length = ln at hv9 hi3
    subst hv9
    have LNH := hq hLN
    clear hLN
    have cA := BX.out.cells
    go_upto_region 5 with fail
    clear cA
    have KE : Hid (∀ u, Below wr.heap.size wr u → (fun u : World => u.rangeAt b1 (off1 + j * 15) ks ∧ u.cell? ⟨X, 2, none⟩ = some (.slice a9 ln q9)) u) := fun u hu => ⟨RU.out u (Below.and BWW.out hu), ((BX.out.step hu).cells 2).trans rfl⟩
    have RF : Hid (Below wr.heap.size wr wr.drew) := (Below.refl _ _).drew
    refine wp_region_last (fun u : World => u.rangeAt b1 (off1 + j * 15) ks ∧ u.cell? ⟨X, 2, none⟩ = some (.slice a9 ln q9)) [_, _, _, _, _, _, _, _, _, _] _ rfl (by kernel_rfl) (by kernel_rfl) ?_
    refine tk 0 (oi := ⟨_, _, _, _, _, _⟩) (v := ?_) rfl (by kernel_rfl) (fun _ _ _ h => h) (Or.inl ⟨by rfl, ?_⟩) (KE.out _ RF.out) ?_
    rotate_left
    ·(intro u hu; obtain ⟨s0, s1⟩ := hu; go_simp)
     try with_reducible rfl
    try simp only [Act.put, sA, sB, sC]
    refine tk 1 (oi := ⟨_, _, _, _, _, _⟩) (v := ?_) rfl (by kernel_rfl) (fun _ _ _ h => h) (Or.inl ⟨by rfl, ?_⟩) (KE.out _ RF.out) ?_
    rotate_left
    ·(intro u hu; obtain ⟨s0, s1⟩ := hu; go_simp)
     try with_reducible rfl
    try simp only [Act.put, sA, sB, sC]
    refine tk 2 (oi := ⟨_, _, _, _, _, _⟩) (v := ?_) rfl (by kernel_rfl) (fun _ _ _ h => h) (Or.inl ⟨by rfl, ?_⟩) (KE.out _ RF.out) ?_
    rotate_left
    ·(intro u hu; obtain ⟨s0, s1⟩ := hu; go_simp)
     try with_reducible rfl
    try simp only [Act.put, sA, sB, sC]
    refine tk 3 (oi := ⟨_, _, _, _, _, _⟩) (v := ?_) rfl (by kernel_rfl) (fun _ _ _ h => h) (Or.inl ⟨by rfl, ?_⟩) (KE.out _ RF.out) ?_
    rotate_left
    ·(intro u hu; obtain ⟨s0, s1⟩ := hu; go_simp)
     try with_reducible rfl
    try simp only [Act.put, sA, sB, sC]
    refine tk 4 (oi := ⟨_, _, _, _, _, _⟩) (v := ?_) rfl (by kernel_rfl) (fun _ _ _ h => h) (Or.inl ⟨by rfl, ?_⟩) (KE.out _ RF.out) ?_
    rotate_left
    ·(intro u hu; obtain ⟨s0, s1⟩ := hu; go_simp)
     try with_reducible rfl
    try simp only [Act.put, sA, sB, sC]
    refine tk 5 (oi := ⟨_, _, _, _, _, _⟩) (v := .agg (ks).toArray) rfl (by kernel_rfl) (fun _ _ _ h => h) (yieldsIf_load_mid rfl 87 _ rfl b1 (off1 + j * 15) rfl (ks) _ (fun u hu => hu.1) Tryz.underlying87 rfl HM1.out) (KE.out _ RF.out) ?_
    try simp only [Act.put, sA, sB, sC]
    have C := hq (CJ.out wr.drew (Below.and BWW.out RF.out))
    clear CJ
    refine wpAnyH_ready (rs := [6]) (by kernel_rfl) (by simp) ?_
    refine AllReadyH.cons (o := ⟨_, _, _, _, _, _⟩) rfl (fun KQ hKK => ?_) AllReadyH.nil
    refine (if_pos (show Region.wanted _ _ = true by kernel_rfl)).mpr ?_
    refine call_by 28 [.tmp 26] #[87] rfl run_l12r _ rfl C.out ?_
    rintro e w3 ⟨M, rfl, hl, hn, hb⟩
    clear C
    obtain ⟨ms, hms⟩ : ∃ ms : List Value, ms = rpcC (M, es[j].2) := ⟨_, rfl⟩
    have VM : M.val = .agg ms.toArray := by rw [hms]; rfl
    have hml : ms.length = 15 := by rw [hms]; rfl
    have ONM : Hid (∀ y ∈ ms, y.oneCell' = true) := fun y hy => by have := Array.all_eq_true_iff_forall_mem.1 (show (rpcC (M, es[j].2)).toArray.all (·.oneCell') = true from hn.at.ones) y (by rw [hms] at hy; simpa using hy); exact this
    have KM : Hid (ms = rpcC (M, es[j].2)) := hms
    clear hms
    refine ⟨M.val, rfl, ?_⟩
    rw [VM]
    clear VM
    have b3 := hq (Below.and RF.out hb)
    have NM := hq (hn.ltF)
    have HL := hq hl
    have LO : Hid (wr.drew.heap.size = wr.heap.size) := rfl
    clear hb hn hl
    refine hKK.out _ _ (KE.out _ b3.out) (fun hH2 => ?_)
    clear hKK KQ hH2
    try simp only [Act.put, sA, sB, sC]
    refine wpAnyH_ready (rs := [7]) (by kernel_rfl) (by simp) ?_
    refine AllReadyH.cons (o := ⟨_, _, _, _, _, _⟩) rfl (fun KQ hKK => ?_) AllReadyH.nil
    refine (if_pos (show Region.wanted _ _ = true by kernel_rfl)).mpr ?_
    refine wp_built 32 87 1 _ rfl Tryz.underlying32 ms.toArray (by rw [Array.toList_map]; exact BS.out ms hml) ?_
    have b4 : Below w3.heap.size w3 (w3.alloc (.cells ms.toArray 87)) := bel_nw _ _
    have HR : Hid (Row (w3.alloc (.cells ms.toArray 87)) (.slice (some ⟨w3.heap.size, 0, none⟩) 1 1) 1 ms) := Row.laid w3 ms 87 _ rfl
    have B4 := hq (Below.and b3.out b4)
    have NM4 := hq (RpcF.chg NM.out (Chg.of_below (F := fun _ => False) b4) (fun _ _ e => e))
    have W34 : Hid (w3.heap.size ≤ (w3.alloc (.cells ms.toArray 87)).heap.size) := b4.size
    clear b4 NM
    refine hKK.out _ _ (KE.out _ B4.out) (fun hH2 => ?_)
    clear hKK KQ hH2
    generalize (w3.alloc (.cells ms.toArray 87)) = W4 at *
    try simp only [Act.put, sA, sB, sC]
    have OE := hq (G.out.net.1.below B4.out)
    have RM : Hid ((E.rs ++ gs).length + 1 ≤ maxLen ∧ ((E.rs ++ gs).length + 1) * 216 ≤ 140737488355328 ∧ 0 ≤ W4.heap.size) := by have := LT.out; have := HRN.out; unfold maxLen; exact ⟨by omega, by omega, by omega⟩
    refine wpAnyH_ready (rs := [8]) (by kernel_rfl) (by simp) ?_
    refine AllReadyH.cons (o := ⟨_, _, _, _, _, _⟩) rfl (fun KQ hKK => ?_) AllReadyH.nil
    refine (if_pos (show Region.wanted _ _ = true by kernel_rfl)).mpr ?_
    refine wp_appE W4 _ _ 32 rfl 0 87 i0 _ 15 216 Tryz.underlying32 hi0 hz0 hz1 hz2 rfl (by decide) (.slice a9 ln q9) (E.rs ++ gs).length ((E.rs ++ gs).map rpcC).flatten rfl OE.out (.slice (some ⟨w3.heap.size, 0, none⟩) 1 1) 1 ms rfl HR.out (by rw [hml]) ONM.out RM.out.1 RM.out.2.1 RM.out.2.2 ?_
    intro v' x AP
    have LR6 := hq (LsLk.snoc hlt2 (y := (M, es[j].2)) LR.out ⟨HL.out, rfl⟩)
    have G5 := hq (G.out.snoc (H := fun g => wr.drew.heap.size ≤ g ∧ g < w3.heap.size) (f := (M, es[j].2)) (nodV_k n) (rpcX_k n) (fun g hg => (FX.out g hg).2.1) B4.out NM4.out (fun g hg => by have := LO.out; have := W34.out; omega) (by rw [← KM.out]; exact AP))
    obtain ⟨ao, cp, bp, wq⟩ := AP
    obtain ⟨a8, q8, hv8⟩ := OwnE.slice ao
    generalize hl8 : (E.rs ++ gs).length + 1 = ln8 at hv8
    subst hv8
    have PV : Hid (∀ g, wrB (.slice a9 ln q9) g → F g) := G.out.net.2
    have FX2 : Hid (∀ g, (F g ∨ wr.heap.size ≤ g ∧ g < x.heap.size) → V0.heap.size ≤ g ∧ g < x.heap.size ∧ g ≠ X) := fun g hg => by
     have s1 := B4.out.size
     have s2 := cp.size
     have s3 := BW.out.2
     have s4 := BW.out.1.size
     rcases hg with hg | hg
     ·have := FX.out g hg; exact ⟨this.1, by omega, this.2.2⟩
     ·exact ⟨by omega, hg.2, by omega⟩
    have bx : MBox 37 x X #[.int .i64 sz, c0, (.slice a9 ln q9), c2, c3, c4] := row_chg (BX.out.step B4.out) cp (fun hg => (FX.out _ (PV.out _ hg)).2.2 rfl)
    have BWx : Hid (Below V0.heap.size V0 x ∧ X < x.heap.size) := ⟨(Below.and BW.out.1 B4.out).trans (cp.below (fun g g1 hg => by have := (FX.out _ (PV.out _ hg)).1; omega) (Nat.le_trans BW.out.1.size B4.out.size)), by have := B4.out.size; have := cp.size; have := BW.out.2; omega⟩
    have S7 : Hid (x.rangeAt b1 (off1 + j * 15) ks) := RU.out x (Below.and B0.out BWx.out.1)
    have S8 : Hid (x.cell? ⟨X, 2, none⟩ = some (.slice a9 ln q9)) := (bx.cells 2).trans rfl
    have ch : Chg (fun g => g = X) x (x.setCell ⟨X, 2, none⟩ (.slice a8 ln8 q8)) := (Chg.refl (fun g => g = X) x).setAt X 2 rfl _
    have FIN : Hid (WrS (nodV n) (rpcX n) (x.setCell ⟨X, 2, none⟩ (.slice a8 ln8 q8)) (fun g => F g ∨ wr.heap.size ≤ g ∧ g < x.heap.size) ⟨sz, c0, .slice a8 ln8 q8, c2, c3, c4⟩ ⟨E.ns, E.rs ++ (gs ++ [(M, es[j].2)]), E.cs, E.ds, E.ls⟩ ∧ MBox 37 (x.setCell ⟨X, 2, none⟩ (.slice a8 ln8 q8)) X #[.int .i64 sz, c0, (.slice a8 ln8 q8), c2, c3, c4] ∧ (∀ g, (F g ∨ wr.heap.size ≤ g ∧ g < x.heap.size) → V0.heap.size ≤ g ∧ g < (x.setCell ⟨X, 2, none⟩ (.slice a8 ln8 q8)).heap.size ∧ g ≠ X) ∧ Below V0.heap.size V0 (x.setCell ⟨X, 2, none⟩ (.slice a8 ln8 q8)) ∧ X < (x.setCell ⟨X, 2, none⟩ (.slice a8 ln8 q8)).heap.size) := by
     have e := G5.out.chg (nodV_k n) (rpcX_k n) ch (fun g hg e => (FX2.out g hg).2.2 e)
     simp only [List.append_assoc] at e
     refine ⟨e, heap_setCell_same x X 2 _ _ _ bx, fun g hg => ?_, BWx.out.1.trans (ch.below (fun g _ hg => by have := XM.out.1; omega) BWx.out.1.size), ?_⟩
     ·have := FX2.out g hg; have := ch.size; exact ⟨by omega, by omega, by omega⟩
     ·have := BWx.out.2; have := ch.size; omega
    have bx := hq bx
    clear ao cp bp wq ch G5 PV OE RM LM LT HL KM NM4 W34 LO HR ONM B4 b3 KE RF G LR HM1 FX FX2 BWx LNH hl8 BX BW BWW RU
    refine hKK.out _ _ ⟨S7.out, S8.out⟩ (fun hH2 => ?_)
    clear hKK KQ hH2
    try simp only [Act.put, sA, sB, sC]
    refine tk 9 (oi := ⟨_, _, _, _, _, _⟩) (v := ?_) rfl (by kernel_rfl) (fun _ _ _ h => h) (Or.inl ⟨by rfl, ?_⟩) ⟨S7.out, S8.out⟩ ?_
    rotate_left
    ·(intro u hu; obtain ⟨s0, s1⟩ := hu; go_simp)
     try with_reducible rfl
    try simp only [Act.put, sA, sB, sC]
    clear S7 S8
    refine wpAnyH_done (by kernel_rfl) ?_ _
    show Oper.wp _ _ _ _ _ _
    have c5 := bx.out.cells
    have f5 : ∀ q, x.frozen? ⟨X, q, none⟩ = false := fun q => frozen_of_cells bx.out
    go_wp2_with fail
    go_roundw
    case rel => exact ⟨j + 1, _, _, _, by omega, by go_num, LR6.out, FIN.out.1, FIN.out.2.2.1, FIN.out.2.1, FIN.out.2.2.2⟩
    case measure => simp [intOf]; omega
   ·have hjn : j = K := by omega
    subst hjn
    obtain ⟨a9, q9, hv9⟩ := OwnE.slice G.out.net.1
    simp only at hv9
    have K7 : Hid (j < es.length → ¬ ((E.rs ++ gs).length : Int) < 30) := fun h => by have := K6.out h; have := LT.out; omega
    generalize hLN : (E.rs ++ gs).length = ln at hv9 K7
    clear hLN
    obtain ⟨vz, hvz⟩ : ∃ vz : Value, vz = v := ⟨_, rfl⟩
    have cA := BX.out.cells
    rw [hv9] at cA
    have R1 : Hid (MBox 37 wr (w.heap.size + 1) #[.int .i64 0, .slice none 0 0, .slice none 0 0, .slice none 0 0, .slice none 0 0, .slice none 0 0]) := M1.out.step BW.out.1
    obtain ⟨cs, hcs⟩ : ∃ cs : List Value, cs = [.int .i64 sz, c0, v, c2, c3, c4] := ⟨_, rfl⟩
    have hcl : cs.length = 6 := by rw [hcs]; rfl
    have ONC : Hid (cs.toArray.all (·.oneCell') = true) := by rw [hcs]; exact (WrS.at (nodV_at n) (rpcX_at n) G.out).ones6
    have RGX : Hid (wr.rangeAt X 0 cs) := by rw [hcs]; exact range_of BX.out
    have TH : Hid (wr.there (w.heap.size + 1) 0 cs.toArray.size) := there_of R1.out (show 6 = cs.toArray.size by rw [List.size_toArray, hcl])
    have HI1 : Hid ((Tryz.prog.info? 37).map (·.size) = some cs.length) := by show _ = _; rw [hcl]; exact (show (Tryz.prog.info? 37).map (·.size) = some 6 by kernel_rfl)
    have HI2 : Hid ((Tryz.prog.info? 37).map (·.size) = some cs.toArray.size) := by show _ = _; rw [List.size_toArray, hcl]; exact (show (Tryz.prog.info? 37).map (·.size) = some 6 by kernel_rfl)
    have GC : Chg (fun g => g = w.heap.size + 1) wr (wr.setCells (w.heap.size + 1) 0 cs) := Chg.setCells (F := fun b => b = w.heap.size + 1) (g := w.heap.size + 1) (fun _ => rfl) cs 0 wr (Chg.refl _ _)
    have X1 : Hid ((wr.setCells (w.heap.size + 1) 0 cs).heap[w.heap.size + 1]? = some (.cells cs.toArray 37 (0, 0))) := setAll_at R1.out cs (by rw [hcl]; rfl)
    have FIN : Hid (∃ (V : WrV) (E : Wd) (F : Nat → Prop), Value.agg cs.toArray = V.val ∧ sz = V.sz ∧ (D.sent es).like E ∧ WrS (nodV n) (rpcX n) (wr.setCells (w.heap.size + 1) 0 cs) F V E ∧ (∀ g, F g → w.heap.size ≤ g ∧ g < (wr.setCells (w.heap.size + 1) 0 cs).heap.size) ∧ Below w.heap.size w (wr.setCells (w.heap.size + 1) 0 cs)) := by
     have hgs := GC.size
     exact ⟨⟨sz, c0, v, c2, c3, c4⟩, _, F, by rw [hcs], rfl, Wd.sent_like LK.out (LsLk.refl rpcLk.refl es) (by rw [hK2.out]; exact LR.out), G.out.chg (nodV_k n) (rpcX_k n) GC (fun g hg e => by have := (FX.out g hg).1; have := ZZ.out; omega), fun g hg => by have := FX.out g hg; have := ZZ.out; omega, (Below.and B0.out BW.out.1).trans (GC.below (fun g _ hg => by omega) (Nat.le_trans B0.out.size BW.out.1.size))⟩
    clear GC G LK LR BX R1 FX BW hcs BS hi0 hz0 hz1 hz2 ON2 CR HA1 RG1 hK2 LM LT K3 K5 K6 hv9 hvz
    rcases Nat.lt_or_ge j es.length with hlt2 | hge
    case' inl =>
     have hi2 : (j : Int) < (es.length : Int) := by omega
     have hi3 := K7.out hlt2
    case' inr =>
     have hi2 : ¬ (j : Int) < (es.length : Int) := by omega
    all_goals
     clear K7
     go_wp2_with (first | (refine wpList_load_mid rfl 37 _ rfl X 0 rfl cs _ RGX.out Tryz.underlying37 rfl HI1.out ?_) | (refine wpList_store_mid rfl 37 _ _ rfl (w.heap.size + 1) 0 cs.toArray rfl rfl TH.out HI2.out ONC.out ?_))
     generalize wr.setCells (w.heap.size + 1) 0 cs = WF at *
     exact ⟨rfl, _, results_cell_row Tryz.results7 _ WF (w.heap.size + 1) 37 cs.toArray (0, 0) _ rfl X1.out Tryz.underlying37 rfl HI2.out, (by obtain ⟨V, E, F, e, e2, r⟩ := FIN.out; first | exact ⟨V, E, F, by rw [e], e2, r⟩ | exact ⟨V, by rw [e], e2, E, F, r⟩ | exact ⟨V, by rw [e], e2, E, r.1, F, r.2⟩)⟩
end
end Go.Proofs.YtkcaelfkcepdkaaGreat
