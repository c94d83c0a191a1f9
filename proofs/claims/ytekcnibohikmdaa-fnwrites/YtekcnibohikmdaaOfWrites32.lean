/-
  l4Give at all depths; the contract of the model's l4Root.
-/
import Derived.Test.YtekcnibohikmdaaOfWrites31
import Derived.Test.YtekcnibohikmdaaOfWrites8
import Derived.Deep.LoopGhost
namespace Go.Proofs.Ytekcnibohikmdaa
set_option maxRecDepth 100000
set_option maxHeartbeats 8000000
section
open Go.RowKit

theorem give_all : ∀ d, GiveIs d
 | 0 => fun _ _ _ _ _ _ _ _ h _ _ => h.elim
 | d + 1 => by
  intro F x T vm ms w ht hm hs hp hn
  rcases hs with ⟨h1, rfl, h2, h3⟩ | ⟨h1, h0, h2, h3, h4, h5, h6⟩
  ·rw [giveM, if_pos h1]
   exact give_leaf 0 F x T vm ms w ht hm h1 (by omega)
  ·rw [giveM, if_neg (by rw [h1]; simp)]
   refine give_fork (give_all d) (down_of (give_all d)) F x T vm ms w ht hm h1 ⟨h4, h6⟩ h2 ?_
   rw [wt, if_neg (by rw [h1]; simp)] at hn
   exact hn

theorem rootM_go {f : Nat} {m : TM} (h : 4 < m.1.length) (hf : m.1.length ≤ f) : rootM f m = rootM (f - 1) (packM m) := by
 cases f with
 | zero => omega
 | succ f => rw [rootM, if_pos h, Nat.add_sub_cancel]
theorem rootM_one {f : Nat} {m : TM} (h : m.1.length = 1) (hf : m.1.length ≤ f) : rootM f m = m.1.getD 0 noTr := by
 cases f with
 | zero => omega
 | succ f => rw [rootM, if_neg (by omega), if_pos h]
theorem rootM_few {f : Nat} {m : TM} (h : ¬ 4 < m.1.length) (h1 : ¬ m.1.length = 1) (hp : 0 < m.1.length) (hf : m.1.length ≤ f) : rootM f m = ⟨false, [], m.2, m.1, []⟩ := by
 cases f with
 | zero => omega
 | succ f => rw [rootM, if_neg h, if_neg h1]

theorem l4Root_any (d : Nat) (F : Nat → Prop) (vt vc : Value) (m : TM) (w : World) (ht : TreesF d w F vt m.1) (hc : RowF w F vc m.2.length (flatI m.2)) (hm : MOk d m) (hn : wtL d m.1 ≤ 1000000) :
  Calls Try.prog 49 #[.agg #[vt, vc]] w fun e w' => ∃ (x : TV), e = .returned x.val ∧ TreeF (d + m.1.length) w' (fun b => F b ∨ w.heap.size ≤ b) x (rootM m.1.length m) ∧ Below w.heap.size w w' := by
 obtain ⟨at0, qt0, hvt, _⟩ := (show Row w vt m.1.length _ from (ht.els.choose_spec.2).row).len
 obtain ⟨ac0, qc0, hvc, _⟩ := hc.row.len
 subst hvt
 subst hvc
 have HT : Hid (TreesF d w (fun b => (F b ∧ b < w.heap.size) ∨ w.heap.size + 2 ≤ b) (.slice at0 m.1.length qt0) m.1) := ht.lt.mono (fun g hg => .inl hg)
 have HC : Hid (RowF w (fun b => (F b ∧ b < w.heap.size) ∨ w.heap.size + 2 ≤ b) (.slice ac0 m.2.length qc0) m.2.length (flatI m.2)) := (hc.lt (flatI_ne _).2).mono (fun g hg => .inl hg)
 have HM : Hid (MOk d m) := hm
 have HN := hid (hn)
 generalize hR : rootM m.1.length m = R
 have HR := hid (hR)
 generalize hD : d + m.1.length = D
 have HD : Hid (d + m.1.length ≤ D) := Nat.le_of_eq hD
 clear ht hc hm hn hR
 have B0 : Hid (Below w.heap.size w ((w.alloc (.cells #[.slice at0 m.1.length qt0, .slice ac0 m.2.length qc0] 95)).alloc (.cells #[.bool false, .slice none 0 0, .slice none 0 0, .slice none 0 0, .slice none 0 0] 54))) := al2 _ _ _
 have X0 : Hid (BoxM ((w.alloc (.cells #[.slice at0 m.1.length qt0, .slice ac0 m.2.length qc0] 95)).alloc (.cells #[.bool false, .slice none 0 0, .slice none 0 0, .slice none 0 0, .slice none 0 0] 54)) w.heap.size #[.slice at0 m.1.length qt0, .slice ac0 m.2.length qc0]) := (BoxM.start w _).alloc _
 have X1 : Hid (OneAt ((w.alloc (.cells #[.slice at0 m.1.length qt0, .slice ac0 m.2.length qc0] 95)).alloc (.cells #[.bool false, .slice none 0 0, .slice none 0 0, .slice none 0 0, .slice none 0 0] 54)) (w.heap.size + 1) #[.bool false, .slice none 0 0, .slice none 0 0, .slice none 0 0, .slice none 0 0]) := by
  have := OneAt.start (w.alloc (.cells #[.slice at0 m.1.length qt0, .slice ac0 m.2.length qc0] 95)) #[.bool false, .slice none 0 0, .slice none 0 0, .slice none 0 0, .slice none 0 0]
  rw [World.size_alloc] at this
  exact this
 have Z0 : Hid (w.heap.size + 2 ≤ ((w.alloc (.cells #[.slice at0 m.1.length qt0, .slice ac0 m.2.length qc0] 95)).alloc (.cells #[.bool false, .slice none 0 0, .slice none 0 0, .slice none 0 0, .slice none 0 0] 54)).heap.size) := by show _ ≤ _; simp
 generalize hn1 : m.1.length = n1 at *
 generalize hn2 : m.2.length = n2 at *
 go_enter Try.func49, Try.ntmps49
 go_wp2
 refine wp_gen (fun W => BoxM W w.heap.size #[.slice at0 n1 qt0, .slice ac0 n2 qc0] ∧ OneAt W (w.heap.size + 1) #[.bool false, .slice none 0 0, .slice none 0 0, .slice none 0 0, .slice none 0 0] ∧ Below w.heap.size w W ∧ w.heap.size + 2 ≤ W.heap.size) ⟨X0.out, X1.out, B0.out, Z0.out⟩ ?_
 rintro W ⟨Y0, Y1, YB, YZ⟩
 clear X0 X1 B0 Z0
 go_loopg [] n1 (fun k wr => ∃ (mm : TM) (d' f : Nat) (e1 e2 : Option Addr) (p1 p2 : Nat), k = mm.1.length ∧ Hid (BoxM wr w.heap.size #[.slice e1 mm.1.length p1, .slice e2 mm.2.length p2]) ∧ Hid (TreesF d' wr (fun b => (F b ∧ b < w.heap.size) ∨ w.heap.size + 2 ≤ b) (.slice e1 mm.1.length p1) mm.1) ∧ Hid (RowF wr (fun b => (F b ∧ b < w.heap.size) ∨ w.heap.size + 2 ≤ b) (.slice e2 mm.2.length p2) mm.2.length (flatI mm.2)) ∧ Hid (MOk d' mm) ∧ Hid (wtL d' mm.1 ≤ 1000000) ∧ Hid (rootM f mm = R) ∧ Hid (mm.1.length ≤ f) ∧ Hid (d' + mm.1.length ≤ D) ∧ Hid (OneAt wr (w.heap.size + 1) #[.bool false, .slice none 0 0, .slice none 0 0, .slice none 0 0, .slice none 0 0]) ∧ Hid (Below w.heap.size w wr) ∧ Hid (w.heap.size + 2 ≤ wr.heap.size))
 case atStart => exact ⟨m, d, n1, at0, ac0, qt0, qc0, hn1.symm, by rw [hn1, hn2]; exact Y0, by rw [hn1]; exact HT.out.below YB, by rw [hn2]; exact HC.out.below YB, HM, HN, HR, Nat.le_of_eq hn1, by rw [hn1]; exact HD, Y1, YB, YZ⟩
 case round =>
  obtain ⟨mm, d', f, e1, e2, p1, p2, rfl, BL, TM1, RM1, MO1, HW, HL, HF, HE, BR, BW, ZL⟩ := hrel
  clear Y0 Y1 YB YZ HT HC HM HN HR HD
  have hmo := MO1.out.1
  have hwl := wtL_length MO1.out.2
  have hww := HW.out
  obtain ⟨x0, x1⟩ := BL.out.two
  by_cases h4 : 4 < mm.1.length
  ·have h4' : (4 : Int) < (mm.1.length : Int) := by omega
   have HP : Hid _ := l4Pack_any d' _ _ _ mm wr TM1.out RM1.out hmo (by omega) (by omega)
   have PO := packM_ok MO1.out (by omega)
   have HL1 : Hid (rootM (f - 1) (packM mm) = R) := by show _ = _; rw [← rootM_go h4 HF.out]; exact HL.out
   have NX : Hid (MOk (d' + 1) (packM mm) ∧ wtL (d' + 1) (packM mm).1 ≤ 1000000 ∧ (packM mm).1.length ≤ f - 1 ∧ d' + 1 + (packM mm).1.length ≤ D ∧ (packM mm).1.length < mm.1.length) := by
    have := HF.out
    have := HE.out
    exact ⟨PO.1, by omega, by omega, by omega, by omega⟩
   clear PO
   generalize packM mm = PM at *
   clear TM1 RM1 MO1 HL hwl hww HW HF HE
   go_wp2_with fail
   refine Calls.mono HP.out ?_
   rintro e w1 ⟨v1, v2, rfl, TP, RP, hb1⟩
   obtain ⟨az, qz, hu1, _⟩ := (show Row w1 v1 PM.1.length _ from (TP.els.choose_spec.2).row).len
   obtain ⟨ay, qy, hu2, _⟩ := RP.row.len
   subst hu1
   subst hu2
   have BL1 : Hid (BoxM w1 w.heap.size #[.slice e1 mm.1.length p1, .slice e2 mm.2.length p2]) := BL.out.step hb1 BL.out.lt
   have FIN : Hid (∀ v v', TreesF (d' + 1) (set2 w1 w.heap.size v v') (fun b => (F b ∧ b < w.heap.size) ∨ w.heap.size + 2 ≤ b) (.slice az PM.1.length qz) PM.1 ∧ RowF (set2 w1 w.heap.size v v') (fun b => (F b ∧ b < w.heap.size) ∨ w.heap.size + 2 ≤ b) (.slice ay PM.2.length qy) PM.2.length (flatI PM.2) ∧ OneAt (set2 w1 w.heap.size v v') (w.heap.size + 1) #[.bool false, .slice none 0 0, .slice none 0 0, .slice none 0 0, .slice none 0 0] ∧ Below w.heap.size w (set2 w1 w.heap.size v v') ∧ w.heap.size + 2 ≤ (set2 w1 w.heap.size v v').heap.size) := fun v v' => by
    have hz := ZL.out
    have hc := chg_set2 w1 w.heap.size v v'
    have hbw := BW.out.size
    have hb1s := hb1.size
    have hk : ∀ g, ((fun b => (F b ∧ b < w.heap.size) ∨ w.heap.size + 2 ≤ b) g ∨ wr.heap.size ≤ g) → ¬ g = w.heap.size ∧ ((F g ∧ g < w.heap.size) ∨ w.heap.size + 2 ≤ g) := fun g hg => by
     rcases hg with (⟨h1, h2⟩ | h) | h
     ·exact ⟨by omega, .inl ⟨h1, h2⟩⟩
     ·exact ⟨by omega, .inr (by omega)⟩
     ·exact ⟨by omega, .inr (by omega)⟩
    refine ⟨(TP.chg hc (fun g hg => (hk g hg).1)).mono (fun g hg => (hk g hg).2), (RP.chg hc (fun g hg => (hk g hg).1)).mono (fun g hg => (hk g hg).2), (BR.out.stepB hb1 (by omega)).chg hc (by omega), (Below.and BW.out hb1).trans (hc.below (fun g _ hg => by omega) (by omega)), ?_⟩
    have := hc.size
    omega
   obtain ⟨m0, m1⟩ := BL1.out.two
   obtain ⟨f0, f1⟩ := BL1.out.free
   clear TP RP hb1 HP x0 x1 BL BR BW ZL
   generalize hq1 : PM.1.length = l1 at *
   generalize hq2 : PM.2.length = l2 at *
   go_wp2
   go_roundg l1
   case measure => exact NX.out.2.2.2.2
   case rel => exact ⟨PM, d' + 1, f - 1, az, ay, qz, qy, hq1.symm, by rw [hq1, hq2]; exact BL1.out.set2 _ _, by rw [hq1]; exact (FIN.out _ _).1, by rw [hq2]; exact (FIN.out _ _).2.1, NX.out.1, NX.out.2.1, HL1, by rw [hq1]; exact NX.out.2.2.1, by rw [hq1]; exact NX.out.2.2.2.1, (FIN.out _ _).2.2.1, (FIN.out _ _).2.2.2.1, (FIN.out _ _).2.2.2.2⟩
  ·have h4' : ¬ (4 : Int) < (mm.1.length : Int) := by omega
   obtain ⟨⟨m0, m1, m2, m3, m4⟩, f0, f1, f2, f3, f4⟩ := box_all5 BR.out
   by_cases h1 : mm.1.length = 1
   ·have ER : R = mm.1.getD 0 noTr := HL.out.symm.trans (rootM_one h1 HF.out)
    obtain ⟨xs0, hxl, hrow, hel⟩ := TM1.out
    obtain ⟨av, b1, off1, c1, hvt, hcap1, hmax1, ha1, d0, d1, d2, d3, d4⟩ := hrow.row.trees
    have KD : Hid (TreeF d' wr (fun b => (F b ∧ b < w.heap.size) ∨ w.heap.size + 2 ≤ b) (tvAt xs0 0) (mm.1.getD 0 noTr)) := hel 0 (by omega)
    have c0 := d0 0 (by omega)
    have c1' := d1 0 (by omega)
    have c2 := d2 0 (by omega)
    have c3 := d3 0 (by omega)
    have c4 := d4 0 (by omega)
    have hav := ha1 (by omega)
    subst hav
    obtain ⟨r1, r2, r3, r4, s1, s2, s3, s4, hy⟩ := KD.out.treeAt.shape
    rw [hy] at KD c0 c1' c2 c3 c4
    simp only [Nat.zero_mul, Nat.add_zero] at c0 c1' c2 c3 c4
    have hw1 : ((mm.1.length : Nat) : Int) = 1 := by omega
    have hv : (Value.slice e1 mm.1.length p1) = .slice (some ⟨b1, off1, none⟩) 1 c1 := by rw [hvt, hxl, h1]
    rw [hv] at BL x0
    have FIN : Hid (∀ v0 v1 v2 v3 v4, TreeF D (set5 wr (w.heap.size + 1) v0 v1 v2 v3 v4) (fun b => F b ∨ w.heap.size ≤ b) (⟨(mm.1.getD 0 noTr).leaf, .slice r1 (mm.1.getD 0 noTr).pairs.length s1, .slice r2 (mm.1.getD 0 noTr).cuts.length s2, .slice r3 (mm.1.getD 0 noTr).kids.length s3, .slice r4 (mm.1.getD 0 noTr).buf.length s4⟩ : TV) R ∧ Below w.heap.size w (set5 wr (w.heap.size + 1) v0 v1 v2 v3 v4)) := fun v0 v1 v2 v3 v4 => by
     have hc := chg_set5 wr (w.heap.size + 1) v0 v1 v2 v3 v4
     have hz := ZL.out
     have hbw := BW.out.size
     have he := HE.out
     rw [ER]
     exact ⟨((KD.out.chg hc (fun g hg k => by rcases hg with h | h <;> omega)).mono (fun g hg => hg.elim (fun h => .inl h.1) (fun h => .inr (by omega)))).le (by omega), BW.out.trans (hc.below (fun g _ hg => by omega) (by omega))⟩
    generalize (mm.1.getD 0 noTr).leaf = z0 at *
    generalize (mm.1.getD 0 noTr).pairs.length = z1 at *
    generalize (mm.1.getD 0 noTr).cuts.length = z2 at *
    generalize (mm.1.getD 0 noTr).kids.length = z3 at *
    generalize (mm.1.getD 0 noTr).buf.length = z4 at *
    clear TM1 RM1 MO1 HL hwl hww HW HF HE BL BW ZL KD hrow hel d0 d1 d2 d3 d4 ha1 hvt hv hxl hy ER hmo
    go_wp2
    refine bodyPost_ret (v := .agg #[.bool z0, .slice r1 z1 s1, .slice r2 z2 s2, .slice r3 z3 s3, .slice r4 z4 s4]) (by simp [results, Try.results49, go_sem, m0, m1, m2, m3, m4]) rfl ⟨⟨z0, .slice r1 z1 s1, .slice r2 z2 s2, .slice r3 z3 s3, .slice r4 z4 s4⟩, rfl, (FIN.out _ _ _ _ _).1, (FIN.out _ _ _ _ _).2⟩
   ·have ER : R = ⟨false, [], mm.2, mm.1, []⟩ := HL.out.symm.trans (rootM_few h4 h1 (by omega) HF.out)
    have h1' : ¬ ((mm.1.length : Nat) : Int) = 1 := by omega
    have FIN : Hid (∀ v0 v1 v2 v3 v4, TreeF D (set5 wr (w.heap.size + 1) v0 v1 v2 v3 v4) (fun b => F b ∨ w.heap.size ≤ b) (⟨false, .slice none 0 0, .slice e2 mm.2.length p2, .slice e1 mm.1.length p1, .slice none 0 0⟩ : TV) R ∧ Below w.heap.size w (set5 wr (w.heap.size + 1) v0 v1 v2 v3 v4)) := fun v0 v1 v2 v3 v4 => by
     have hc := chg_set5 wr (w.heap.size + 1) v0 v1 v2 v3 v4
     have hz := ZL.out
     have hbw := BW.out.size
     have he := HE.out
     rw [ER]
     have hk : ∀ g, (F g ∧ g < w.heap.size) ∨ w.heap.size + 2 ≤ g → ¬ g = w.heap.size + 1 ∧ (F g ∨ w.heap.size ≤ g) := fun g hg => by
      rcases hg with ⟨h1, h2⟩ | h
      ·exact ⟨by omega, .inl h1⟩
      ·exact ⟨by omega, .inr (by omega)⟩
     refine ⟨TreeF.le (n := d' + 1) (TreeF.mk rfl (RowF.nil _ _) ((RM1.out.chg hc (fun g hg => (hk g hg).1)).mono (fun g hg => (hk g hg).2)) (RowF.nil _ _) ((TM1.out.chg hc (fun g hg => (hk g hg).1)).mono (fun g hg => (hk g hg).2))) (by omega), BW.out.trans (hc.below (fun g _ hg => by omega) (by omega))⟩
    clear TM1 RM1 MO1 HL hwl hww HW HF HE BL BW ZL ER hmo
    generalize mm.1.length = l1 at *
    generalize mm.2.length = l2 at *
    go_wp2
    refine bodyPost_ret (v := .agg #[.bool false, .slice none 0 0, .slice e2 l2 p2, .slice e1 l1 p1, .slice none 0 0]) (by simp [results, Try.results49, go_sem, m0, m1, m2, m3, m4]) rfl ⟨⟨false, .slice none 0 0, .slice e2 l2 p2, .slice e1 l1 p1, .slice none 0 0⟩, rfl, (FIN.out _ _ _ _ _).1, (FIN.out _ _ _ _ _).2⟩
end
end Go.Proofs.Ytekcnibohikmdaa
