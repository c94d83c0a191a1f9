/-
  The program's Send.
-/
import Derived.Test.YtkcaelfkcepdkaaGreatOfSend46
namespace Go.Proofs.YtkcaelfkcepdkaaGreat
set_option maxRecDepth 100000
set_option maxHeartbeats 8000000
section
open Go.RowKit

theorem WrSU.at {n : Nat} {w : World} {F : Nat → Prop} {W : WrV} {D : Wd} (h : WrS (nodU n) (rpcU n) w F W D) : WrAt n w W D := WrS.at (nodU_at n) (rpcU_at n) h
theorem implSend_any (n : Nat) (W : WrV) (D : Wd) (lo hi l1 l2 : Nat) (w : World) (h : WrI n w lo hi W D) (hs : D.small n) (vl : Value) (es : List RpcE) (hl : LsI rpcC (rpcI n) noRpc 87 15 w l1 l2 vl es) (hes : ∀ e ∈ es, e.2.small n) (hn : es.length ≤ 1048576) :
  Calls Tryz.prog 10 #[W.val, vl] w fun e w' => ∃ (V : WrV) (E : Wd) (F : Nat → Prop), e = .returned V.val ∧ W.sz = V.sz ∧ (D.sent es).like E ∧ WrS (nodU n) (rpcU n) w' F V E ∧ (∀ g, F g → w.heap.size ≤ g ∧ g < w'.heap.size) ∧ Below w.heap.size w w' := by
 have hat := h.at
 obtain ⟨sz, nv, rv, cv, av, lv⟩ := W
 obtain ⟨zs, has⟩ : ∃ zs : List Value, zs = [.int .i64 sz, nv, rv, cv, av, lv] := ⟨_, rfl⟩
 have hal : zs.length = 6 := by rw [has]; rfl
 have VW : (WrV.mk sz nv rv cv av lv).val = .agg zs.toArray := by rw [has]
 have HES := hq hes
 have HN := hq hn
 have HSR := hq hs.r
 have HLI := hq hl
 obtain ⟨al, pl, hvl⟩ := hl.1.slice
 subst hvl
 clear hl hes hn
 have ONA : Hid (zs.toArray.all (·.oneCell') = true) := by rw [has]; exact hat.ones6
 have CP := hq (fun (u : World) (hu : Below w.heap.size w u) => copyOfWorld_any n ⟨sz, nv, rv, cv, av, lv⟩ D lo hi u (h.below hu) hs)
 rw [VW] at CP ⊢
 clear VW has h
 have b0 : Below w.heap.size w ((w.alloc (.cells zs.toArray 37)).alloc (.cells #[.int .i64 0, .slice none 0 0, .slice none 0 0, .slice none 0 0, .slice none 0 0, .slice none 0 0] 37)) := Below.and (bel_nw _ _) (bel_nw _ _)
 have m0 := MBox.step (MBox.start 37 w zs.toArray) (bel_nw _ (.cells #[.int .i64 0, .slice none 0 0, .slice none 0 0, .slice none 0 0, .slice none 0 0, .slice none 0 0] 37))
 have m1 := MBox.start 37 (w.alloc (.cells zs.toArray 37)) #[.int .i64 0, .slice none 0 0, .slice none 0 0, .slice none 0 0, .slice none 0 0, .slice none 0 0]
 simp only [World.size_alloc] at m1
 have B0 := hq b0
 have RA : Hid (((w.alloc (.cells zs.toArray 37)).alloc (.cells #[.int .i64 0, .slice none 0 0, .slice none 0 0, .slice none 0 0, .slice none 0 0, .slice none 0 0] 37)).rangeAt w.heap.size 0 zs) := by have := range_of m0; rw [List.toList_toArray] at this; exact this
 have HIA : Hid ((Tryz.prog.info? 37).map (·.size) = some zs.length) := by show _ = _; rw [hal]; exact (show (Tryz.prog.info? 37).map (·.size) = some 6 by kernel_rfl)
 have M1 := hq m1
 have ZZ : Hid (w.heap.size + 2 = ((w.alloc (.cells zs.toArray 37)).alloc (.cells #[.int .i64 0, .slice none 0 0, .slice none 0 0, .slice none 0 0, .slice none 0 0, .slice none 0 0] 37)).heap.size) := by show _ = _; simp
 clear b0 m0 m1
 go_enter Tryz.func10, Tryz.ntmps10
 go_upto_region 1 with fail
 generalize ((w.alloc (.cells zs.toArray 37)).alloc (.cells #[.int .i64 0, .slice none 0 0, .slice none 0 0, .slice none 0 0, .slice none 0 0, .slice none 0 0] 37)) = V0 at *
 go_cut [5] (fun s5 wx => ∃ (X : Nat) (c0 c1 c2 c3 c4 : Value) (E : Wd), s5 = .pointer (some ⟨X, 0, none⟩) ∧ Hid (D.like E) ∧ Hid (WrS (nodU n) (rpcU n) wx (fun g => V0.heap.size ≤ g ∧ g < X) ⟨sz, c0, c1, c2, c3, c4⟩ E) ∧ Hid (MBox 37 wx X #[.int .i64 sz, c0, c1, c2, c3, c4]) ∧ Hid (Below V0.heap.size V0 wx) ∧ Hid (V0.heap.size ≤ X ∧ X < wx.heap.size))
 case first =>
  go_wp2_with (refine wpList_load_mid rfl 37 _ rfl w.heap.size 0 rfl zs _ RA.out Tryz.underlying37 rfl HIA.out ?_)
  refine (CP.out V0 B0.out).mono ?_
  rintro e w1 ⟨V, E, rfl, hsz, hl, hW, hb⟩
  replace hW := WrI.s hW
  obtain ⟨sz1, c0, c1, c2, c3, c4⟩ := V
  simp only at hsz
  subst hsz
  obtain ⟨cs, hcs⟩ : ∃ cs : List Value, cs = [.int .i64 sz, c0, c1, c2, c3, c4] := ⟨_, rfl⟩
  have hcl : cs.length = 6 := by rw [hcs]; rfl
  have ONC : Hid (cs.toArray.all (·.oneCell') = true) := by rw [hcs]; exact (WrS.at (nodU_at n) (rpcU_at n) hW).ones6
  have VC : (WrV.mk sz c0 c1 c2 c3 c4).val = .agg cs.toArray := by rw [hcs]
  rw [VC]
  have HI2 : Hid ((Tryz.prog.info? 37).map (·.size) = some cs.toArray.size) := by show _ = _; rw [List.size_toArray, hcl]; exact (show (Tryz.prog.info? 37).map (·.size) = some 6 by kernel_rfl)
  have Y := hq (MBox.start 37 w1 #[.int .i64 0, .slice none 0 0, .slice none 0 0, .slice none 0 0, .slice none 0 0, .slice none 0 0])
  have TH : Hid ((w1.alloc (.cells #[.int .i64 0, .slice none 0 0, .slice none 0 0, .slice none 0 0, .slice none 0 0, .slice none 0 0] 37)).there w1.heap.size 0 cs.toArray.size) := there_of Y.out (show 6 = cs.toArray.size by rw [List.size_toArray, hcl])
  have ba : Below w1.heap.size w1 (w1.alloc (.cells #[.int .i64 0, .slice none 0 0, .slice none 0 0, .slice none 0 0, .slice none 0 0, .slice none 0 0] 37)) := bel_nw _ _
  have GC : Chg (fun g => g = w1.heap.size) (w1.alloc (.cells #[.int .i64 0, .slice none 0 0, .slice none 0 0, .slice none 0 0, .slice none 0 0, .slice none 0 0] 37)) ((w1.alloc (.cells #[.int .i64 0, .slice none 0 0, .slice none 0 0, .slice none 0 0, .slice none 0 0, .slice none 0 0] 37)).setCells w1.heap.size 0 cs) := Chg.setCells (F := fun g => g = w1.heap.size) (g := w1.heap.size) (fun _ => rfl) cs 0 _ (Chg.refl _ _)
  have XF : Hid (MBox 37 ((w1.alloc (.cells #[.int .i64 0, .slice none 0 0, .slice none 0 0, .slice none 0 0, .slice none 0 0, .slice none 0 0] 37)).setCells w1.heap.size 0 cs) w1.heap.size cs.toArray) := setAll_at Y.out cs (by rw [hcl]; rfl)
  have B3 : Below w1.heap.size w1 ((w1.alloc (.cells #[.int .i64 0, .slice none 0 0, .slice none 0 0, .slice none 0 0, .slice none 0 0, .slice none 0 0] 37)).setCells w1.heap.size 0 cs) := ba.trans (GC.below (fun g _ hg => by omega) ba.size)
  have B4 : Hid (Below V0.heap.size V0 ((w1.alloc (.cells #[.int .i64 0, .slice none 0 0, .slice none 0 0, .slice none 0 0, .slice none 0 0, .slice none 0 0] 37)).setCells w1.heap.size 0 cs)) := hb.trans (B3.mono hb.size)
  have S1 : Hid (V0.heap.size ≤ w1.heap.size ∧ w1.heap.size < ((w1.alloc (.cells #[.int .i64 0, .slice none 0 0, .slice none 0 0, .slice none 0 0, .slice none 0 0, .slice none 0 0] 37)).setCells w1.heap.size 0 cs).heap.size) := ⟨hb.size, by have := GC.size; simp only [World.size_alloc] at this; show _ < _; omega⟩
  have W3 := hq (hW.below (nodU_k n) (rpcU_k n) B3)
  have HL := hq hl
  have XF2 : Hid (MBox 37 ((w1.alloc (.cells #[.int .i64 0, .slice none 0 0, .slice none 0 0, .slice none 0 0, .slice none 0 0, .slice none 0 0] 37)).setCells w1.heap.size 0 cs) w1.heap.size #[.int .i64 sz, c0, c1, c2, c3, c4]) := by have := XF.out; rw [show cs.toArray = #[.int .i64 sz, c0, c1, c2, c3, c4] by rw [hcs]] at this; exact this
  have FIN : Hid (∃ (X : Nat) (c0 c1 c2 c3 c4 : Value) (E : Wd), Value.pointer (some ⟨w1.heap.size, 0, none⟩) = .pointer (some ⟨X, 0, none⟩) ∧ Hid (D.like E) ∧ Hid (WrS (nodU n) (rpcU n) ((w1.alloc (.cells #[.int .i64 0, .slice none 0 0, .slice none 0 0, .slice none 0 0, .slice none 0 0, .slice none 0 0] 37)).setCells w1.heap.size 0 cs) (fun g => V0.heap.size ≤ g ∧ g < X) ⟨sz, c0, c1, c2, c3, c4⟩ E) ∧ Hid (MBox 37 ((w1.alloc (.cells #[.int .i64 0, .slice none 0 0, .slice none 0 0, .slice none 0 0, .slice none 0 0, .slice none 0 0] 37)).setCells w1.heap.size 0 cs) X #[.int .i64 sz, c0, c1, c2, c3, c4]) ∧ Hid (Below V0.heap.size V0 ((w1.alloc (.cells #[.int .i64 0, .slice none 0 0, .slice none 0 0, .slice none 0 0, .slice none 0 0, .slice none 0 0] 37)).setCells w1.heap.size 0 cs)) ∧ Hid (V0.heap.size ≤ X ∧ X < ((w1.alloc (.cells #[.int .i64 0, .slice none 0 0, .slice none 0 0, .slice none 0 0, .slice none 0 0, .slice none 0 0] 37)).setCells w1.heap.size 0 cs).heap.size)) := ⟨w1.heap.size, c0, c1, c2, c3, c4, E, rfl, HL.out, W3.out, XF2.out, B4.out, S1.out⟩
  clear XF XF2 W3 HL B4 S1 GC B3 hcs VC hl hb hW Y ba B0 M1 ZZ RA HIA CP ONA
  go_wp2_with (refine wpList_store_mid rfl 37 _ _ rfl w1.heap.size 0 cs.toArray rfl rfl TH.out HI2.out ONC.out ?_)
  go_meet
  exact FIN.out
 case rest =>
  clear RA HIA CP ONA
  obtain ⟨X, c0, c1, c2, c3, c4, E, rfl, LK, G0, BX0, BW0, XM⟩ := hcut
  have SA := hq (send_any n sz c0 c1 c2 c3 c4 E _ X l1 l2 V0 _ BW0.out G0.out (fun g hg => ⟨hg.1, by have := hg.2; have := XM.out.2; omega, by have := hg.2; omega⟩) XM.out BX0.out _ es (HLI.out.below (rpcI_k n) B0.out) HES.out HN.out (by rw [← LK.out.r.1]; exact HSR.out))
  clear G0 BX0 HES HN HSR HLI BW0
  go_wp2_with fail
  refine SA.out.mono ?_
  rintro e wr ⟨rfl, F, v, gs, hlr, hG, hF, hbx, hbw⟩
  have LR := hq hlr
  have G := hq hG
  have FX := hq hF
  have BX := hq hbx
  have BW := hq hbw
  have R1 : Hid (MBox 37 wr (w.heap.size + 1) #[.int .i64 0, .slice none 0 0, .slice none 0 0, .slice none 0 0, .slice none 0 0, .slice none 0 0]) := M1.out.step hbw
  have GG := hq (WrSU.at G.out)
  clear hlr hG hF hbx hbw SA
  obtain ⟨cs, hcs⟩ : ∃ cs : List Value, cs = [.int .i64 sz, c0, v, c2, c3, c4] := ⟨_, rfl⟩
  have hcl : cs.length = 6 := by rw [hcs]; rfl
  have ONC : Hid (cs.toArray.all (·.oneCell') = true) := by rw [hcs]; exact GG.out.ones6
  have RGX : Hid (wr.rangeAt X 0 cs) := by rw [hcs]; exact range_of BX.out
  have TH : Hid (wr.there (w.heap.size + 1) 0 cs.toArray.size) := there_of R1.out (show 6 = cs.toArray.size by rw [List.size_toArray, hcl])
  have HI1 : Hid ((Tryz.prog.info? 37).map (·.size) = some cs.length) := by show _ = _; rw [hcl]; exact (show (Tryz.prog.info? 37).map (·.size) = some 6 by kernel_rfl)
  have HI2 : Hid ((Tryz.prog.info? 37).map (·.size) = some cs.toArray.size) := by show _ = _; rw [List.size_toArray, hcl]; exact (show (Tryz.prog.info? 37).map (·.size) = some 6 by kernel_rfl)
  have GC : Chg (fun g => g = w.heap.size + 1) wr (wr.setCells (w.heap.size + 1) 0 cs) := Chg.setCells (F := fun b => b = w.heap.size + 1) (g := w.heap.size + 1) (fun _ => rfl) cs 0 wr (Chg.refl _ _)
  have X1 : Hid ((wr.setCells (w.heap.size + 1) 0 cs).heap[w.heap.size + 1]? = some (.cells cs.toArray 37 (0, 0))) := setAll_at R1.out cs (by rw [hcl]; rfl)
  have FIN : Hid (∃ (V : WrV) (E : Wd) (F : Nat → Prop), Value.agg cs.toArray = V.val ∧ sz = V.sz ∧ (D.sent es).like E ∧ WrS (nodU n) (rpcU n) (wr.setCells (w.heap.size + 1) 0 cs) F V E ∧ (∀ g, F g → w.heap.size ≤ g ∧ g < (wr.setCells (w.heap.size + 1) 0 cs).heap.size) ∧ Below w.heap.size w (wr.setCells (w.heap.size + 1) 0 cs)) := by
   have hgs := GC.size
   exact ⟨⟨sz, c0, v, c2, c3, c4⟩, _, F, by rw [hcs], rfl, Wd.sent_like LK.out (LsLk.refl rpcLk.refl es) LR.out, G.out.chg (nodU_k n) (rpcU_k n) GC (fun g hg e => by have := (FX.out g hg).1; have := ZZ.out; omega), fun g hg => by have := FX.out g hg; have := ZZ.out; omega, (Below.and B0.out BW.out).trans (GC.below (fun g _ hg => by omega) (Nat.le_trans B0.out.size BW.out.size))⟩
  clear GC G GG LK LR BX R1 FX BW hcs
  go_wp2_with (first | (refine wpList_load_mid rfl 37 _ rfl X 0 rfl cs _ RGX.out Tryz.underlying37 rfl HI1.out ?_) | (refine wpList_store_mid rfl 37 _ _ rfl (w.heap.size + 1) 0 cs.toArray rfl rfl TH.out HI2.out ONC.out ?_))
  generalize wr.setCells (w.heap.size + 1) 0 cs = WF at *
  exact ⟨rfl, _, results_cell_row Tryz.results10 _ WF (w.heap.size + 1) 37 cs.toArray (0, 0) _ rfl X1.out Tryz.underlying37 rfl HI2.out, (by obtain ⟨V, E, F, e, e2, r⟩ := FIN.out; first | exact ⟨V, E, F, by rw [e], e2, r⟩ | exact ⟨V, by rw [e], e2, E, F, r⟩ | exact ⟨V, by rw [e], e2, E, r.1, F, r.2⟩)⟩
end
end Go.Proofs.YtkcaelfkcepdkaaGreat
