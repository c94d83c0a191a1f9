/-
  The contract of the model's l2DrawRight.
-/
import Derived.Test.YtekcnibohikmdaaOfWrites35
import Derived.Test.YtekcnibohikmdaaOfWrites23
namespace Go.Proofs.Ytekcnibohikmdaa
set_option maxRecDepth 100000
set_option maxHeartbeats 8000000
section
open Go.RowKit

theorem TreeD.ok8 {N : Nat} {w : World} {F : Nat → Prop} {x : TV} {T : Tr} (h : TreeD N w F x T) (ho : okT T = true) : TreeD 8 w F x T := (TreeD.down (ok_sh ho).1 h).le (by have := (ok_sh ho).2.1; omega)
theorem size_ok8 {T : Tr} (ho : okT T = true) : sizeT 8 T ≤ 1000000 := by
 obtain ⟨h1, h2, h3⟩ := ok_sh ho
 exact Nat.le_trans (sh_size h1 (by omega)) (by omega)
def newT : Tr := ⟨true, [], [], [], []⟩
theorem newT_ok : okT newT = true := by decide
theorem newT_at (w : World) (F : Nat → Prop) : TreeD 8 w F ⟨true, .slice none 0 0, .slice none 0 0, .slice none 0 0, .slice none 0 0⟩ newT :=
 ⟨rfl, OwnE.nil _ _ _ _, OwnE.nil _ _ _ _, OwnE.nil _ _ _ _, fun g hg => by rcases hg with h | h | h | h <;> exact absurd h (wrB_nil g), [], fun _ _ => False, rfl, OwnE.nil _ _ _ _, fun i hi => absurd hi (Nat.not_lt_zero _), fun _ _ _ h => h.elim, fun _ _ _ _ _ h => h.elim⟩

theorem specTreeNew_any (w : World) : Calls Try.prog 34 #[] w fun e w' => e = .returned (.agg #[.bool true, .slice none 0 0, .slice none 0 0, .slice none 0 0, .slice none 0 0]) ∧ Below w.heap.size w w' := by
 go_enter Try.func34, Try.ntmps34
 go_wp2
 refine bodyPost_ret (v := .agg #[.bool true, .slice none 0 0, .slice none 0 0, .slice none 0 0, .slice none 0 0]) (by simp [results, Try.results34, go_sem]) rfl ⟨rfl, al1 _ _⟩

theorem l1Long_any (a : Option Addr) (n cap : Nat) (w : World) (hn : n ≤ 1048576) : Calls Try.prog 42 #[.slice a n cap, .int .i64 30, .int .i64 90] w fun e w' => ∃ x : Int, e = .returned (.int .i64 x) ∧ 0 ≤ x ∧ x ≤ 90 ∧ Below w.heap.size w w' := by
 go_enter Try.func42, Try.ntmps42
 go_wp2
 all_goals (
  go_ret
  exact ⟨_, rfl, by omega, by omega, Below.refl _ _⟩)

def RightIs (C : Nat) (w : World) (e : Ending) (w' : World) : Prop := ∃ (y : TV) (T : Tr), e = .returned y.val ∧ okT T = true ∧ TreeD 8 w' (fun g => w.heap.size ≤ g) y T ∧ Cur w' C ∧ Chg (fun g => g = C) w w'

theorem l2DrawRight_any (C : Nat) (v : Value) (bs : List Int) (w : World) (hc : Cur w C) (hcode : Code8 w v bs) (hn : bs.length ≤ 1048576) :
  Calls Try.prog 32 #[.pointer (some ⟨C, 0, none⟩), v] w (RightIs C w) := by
 have hCw : C < w.heap.size := hc.lt
 obtain ⟨ca, cn, hcv, _⟩ := hcode.1.len
 subst hcv
 have HL : Hid (∀ w1, Calls Try.prog 42 #[.slice ca bs.length cn, .int .i64 30, .int .i64 90] w1 fun e w' => ∃ x : Int, e = .returned (.int .i64 x) ∧ 0 ≤ x ∧ x ≤ 90 ∧ Below w1.heap.size w1 w') := fun w1 => l1Long_any ca bs.length cn w1 hn
 have HC : Hid (Cur w C) := hc
 clear hc hcode hn
 generalize bs.length = bn at *
 have S0 : Hid (OneAt (w.alloc (.cells #[.bool false, .slice none 0 0, .slice none 0 0, .slice none 0 0, .slice none 0 0] 54)) w.heap.size #[.bool false, .slice none 0 0, .slice none 0 0, .slice none 0 0, .slice none 0 0]) := OneAt.start _ _
 have B0 : Hid (Below w.heap.size w (w.alloc (.cells #[.bool false, .slice none 0 0, .slice none 0 0, .slice none 0 0, .slice none 0 0] 54))) := al1 _ _
 have HN0 : Hid _ := specTreeNew_any (w.alloc (.cells #[.bool false, .slice none 0 0, .slice none 0 0, .slice none 0 0, .slice none 0 0] 54))
 go_enter Try.func32, Try.ntmps32
 go_wp2_with fail
 refine Calls.mono HN0.out ?_
 rintro e w1 ⟨rfl, hb1⟩
 have B1 : Hid (Below w.heap.size w w1) := Below.and B0.out hb1
 have S1 : Hid (OneAt w1 w.heap.size #[.bool false, .slice none 0 0, .slice none 0 0, .slice none 0 0, .slice none 0 0]) := S0.out.step hb1
 have hs1 : w.heap.size < w1.heap.size := by
  have := hb1.size
  simp at this
  omega
 clear B0 S0 hb1 HN0
 have NB : Hid (OneAt (w1.alloc (.cells #[.bool true, .slice none 0 0, .slice none 0 0, .slice none 0 0, .slice none 0 0] 54)) w1.heap.size #[.bool true, .slice none 0 0, .slice none 0 0, .slice none 0 0, .slice none 0 0]) := OneAt.start _ _
 have B2 : Hid (Below w.heap.size w (w1.alloc (.cells #[.bool true, .slice none 0 0, .slice none 0 0, .slice none 0 0, .slice none 0 0] 54))) := Below.and B1.out (al1 _ _)
 have S2 : Hid (OneAt (w1.alloc (.cells #[.bool true, .slice none 0 0, .slice none 0 0, .slice none 0 0, .slice none 0 0] 54)) w.heap.size #[.bool false, .slice none 0 0, .slice none 0 0, .slice none 0 0, .slice none 0 0]) := S1.out.step (al1 _ _)
 have Z2 : Hid (w1.heap.size < (w1.alloc (.cells #[.bool true, .slice none 0 0, .slice none 0 0, .slice none 0 0, .slice none 0 0] 54)).heap.size) := by show _ < _; simp
 go_wp2_with fail
 refine Calls.mono (HL.out _) ?_
 rintro e w3 ⟨x, rfl, hx0, hx1, hb3⟩
 have B3 : Hid (Below w.heap.size w w3) := Below.and B2.out hb3
 have S3 : Hid (OneAt w3 w.heap.size #[.bool false, .slice none 0 0, .slice none 0 0, .slice none 0 0, .slice none 0 0]) := S2.out.step hb3
 have N3 : Hid (OneAt w3 w1.heap.size #[.bool true, .slice none 0 0, .slice none 0 0, .slice none 0 0, .slice none 0 0]) := NB.out.step hb3
 have Z3 : Hid (w1.heap.size < w3.heap.size) := Nat.lt_of_lt_of_le Z2.out hb3.size
 have C3 : Hid (Cur w3 C) := HC.out.below B3.out
 clear hb3 B2 S2 NB Z2 B1 S1
 have HB : Hid _ := l1Below_any C x w3 C3.out (by omega)
 go_wp2_with fail
 refine Calls.mono HB.out ?_
 rintro e w4 ⟨nn, rfl, hn0, hn1, hn2, C4, G4⟩
 have hnn : nn ≤ 90 := by
  rcases Int.lt_or_le 0 x with h | h
  ·have := hn1 h; omega
  ·have := hn2 h; omega
 have C4' : Hid (Cur w4 C) := C4
 have G4' : Hid (Chg (fun g => g = C) w w4) := (Chg.of_below (F := fun g => g = C) B3.out).trans G4 (fun _ _ h => h)
 have S4 : Hid (OneAt w4 w.heap.size #[.bool false, .slice none 0 0, .slice none 0 0, .slice none 0 0, .slice none 0 0]) := S3.out.chg G4 (by omega)
 have N4 : Hid (OneAt w4 w1.heap.size #[.bool true, .slice none 0 0, .slice none 0 0, .slice none 0 0, .slice none 0 0]) := N3.out.chg G4 (by omega)
 have Z4 : Hid (w1.heap.size < w4.heap.size) := Nat.lt_of_lt_of_le Z3.out G4.size
 clear C4 G4 B3 S3 N3 Z3 C3 HB hn1 hn2 HL HC hx0 hx1
 generalize w1.heap.size = NT at *
 obtain ⟨K, hK⟩ : ∃ K : Nat, nn = (K : Int) := ⟨nn.toNat, by omega⟩
 subst hK
 go_wp2
 go_loopw [7] (fun i wr => ∃ (j : Nat) (yl : Bool) (ya1 ya2 ya3 ya4 : Option Addr) (yn1 yn2 yn3 yn4 yq1 yq2 yq3 yq4 : Nat) (T : Tr), i = .int .i64 j ∧ j ≤ K ∧ Hid (TreeD 8 wr (fun g => NT < g) (⟨yl, .slice ya1 yn1 yq1, .slice ya2 yn2 yq2, .slice ya3 yn3 yq3, .slice ya4 yn4 yq4⟩ : TV) T) ∧ Hid (okT T = true) ∧ Hid (OneAt wr NT #[.bool yl, .slice ya1 yn1 yq1, .slice ya2 yn2 yq2, .slice ya3 yn3 yq3, .slice ya4 yn4 yq4]) ∧ Hid (OneAt wr w.heap.size #[.bool false, .slice none 0 0, .slice none 0 0, .slice none 0 0, .slice none 0 0]) ∧ Hid (Cur wr C) ∧ Hid (Chg (fun g => g = C) w wr) ∧ Hid (NT < wr.heap.size))
  (fun i _ => K - (intOf i).toNat)
 case atStart => exact ⟨0, true, none, none, none, none, 0, 0, 0, 0, 0, 0, 0, 0, newT, rfl, Nat.zero_le _, newT_at _ _, newT_ok, N4, S4, C4', G4', Z4⟩
 case round =>
  obtain ⟨j, yl, ya1, ya2, ya3, ya4, yn1, yn2, yn3, yn4, yq1, yq2, yq3, yq4, T, rfl, hjk, TY, OK, XN, XS, CU, GC, ZN⟩ := hrel
  clear N4 S4 C4' G4' Z4
  by_cases hlt : j < K
  ·have hi1 : (j : Int) < (K : Int) := by omega
   have hS : wr.drew.cell? ⟨NT, 0, none⟩ = some (.bool yl) ∧ wr.drew.cell? ⟨NT, 1, none⟩ = some (.slice ya1 yn1 yq1) ∧ wr.drew.cell? ⟨NT, 2, none⟩ = some (.slice ya2 yn2 yq2) ∧ wr.drew.cell? ⟨NT, 3, none⟩ = some (.slice ya3 yn3 yq3) ∧ wr.drew.cell? ⟨NT, 4, none⟩ = some (.slice ya4 yn4 yq4) := box_cells5 XN.out
   have TYd : Hid (TreeD 8 wr.drew (fun g => NT < g) (⟨yl, .slice ya1 yn1 yq1, .slice ya2 yn2 yq2, .slice ya3 yn3 yq3, .slice ya4 yn4 yq4⟩ : TV) T) := TY.out.below (Below.refl _ _).drew
   have XNd : Hid (OneAt wr.drew NT #[.bool yl, .slice ya1 yn1 yq1, .slice ya2 yn2 yq2, .slice ya3 yn3 yq3, .slice ya4 yn4 yq4]) := XN.out
   have XSd : Hid (OneAt wr.drew w.heap.size #[.bool false, .slice none 0 0, .slice none 0 0, .slice none 0 0, .slice none 0 0]) := XS.out
   have CUd : Hid (Cur wr.drew C) := CU.out.below (Below.refl _ _).drew
   have GCd : Hid (Chg (fun g => g = C) w wr.drew) := GC.out.drew
   have ZNd : Hid (NT < wr.drew.heap.size) := ZN
   clear TY XN XS CU GC ZN
   go_wp2_with fail
   refine wp_region_last (fun u => u.cell? ⟨NT, 0, none⟩ = some (.bool yl) ∧ u.cell? ⟨NT, 1, none⟩ = some (.slice ya1 yn1 yq1) ∧ u.cell? ⟨NT, 2, none⟩ = some (.slice ya2 yn2 yq2) ∧ u.cell? ⟨NT, 3, none⟩ = some (.slice ya3 yn3 yq3) ∧ u.cell? ⟨NT, 4, none⟩ = some (.slice ya4 yn4 yq4)) [_, _, _, _] _ rfl (by kernel_rfl) (by kernel_rfl) ?_
   generalize wr.drew = wd at *
   refine tq 0 rfl (by kernel_rfl) (fun _ _ _ h => h) (by assumption) rfl (by intro w h; go_simp <;> with_reducible rfl) ?_
   try simp only [Act.put, List.setIfInBounds_toArray, List.set_cons_zero, List.set_cons_succ]
   refine tq 1 rfl (by kernel_rfl) (fun _ _ _ h => h) (by assumption) rfl (by intro w h; go_simp <;> with_reducible rfl) ?_
   try simp only [Act.put, List.setIfInBounds_toArray, List.set_cons_zero, List.set_cons_succ]
   refine rq 2 (by kernel_rfl) rfl (fun K hK => ?_)
   refine step_func rfl 41 [.tmp 19] #[45] rfl run41 [.pointer (some ⟨C, 0, none⟩)] rfl (l1DrawMsg_any C wd CUd.out) ?_
   rintro e w5 ⟨mo, mk, mv, rfl, C5, G5⟩
   refine ⟨_, rfl, ?_⟩
   have TY5 : Hid (TreeD 8 w5 (fun g => NT < g) (⟨yl, .slice ya1 yn1 yq1, .slice ya2 yn2 yq2, .slice ya3 yn3 yq3, .slice ya4 yn4 yq4⟩ : TV) T) := TYd.out.chg G5 (fun g hg e => by omega)
   have XN5 : Hid (OneAt w5 NT #[.bool yl, .slice ya1 yn1 yq1, .slice ya2 yn2 yq2, .slice ya3 yn3 yq3, .slice ya4 yn4 yq4]) := XNd.out.chg G5 (by omega)
   have XS5 : Hid (OneAt w5 w.heap.size #[.bool false, .slice none 0 0, .slice none 0 0, .slice none 0 0, .slice none 0 0]) := XSd.out.chg G5 (by omega)
   have CU5 : Hid (Cur w5 C) := C5
   have GC5 : Hid (Chg (fun g => g = C) w w5) := GCd.out.trans G5 (fun _ _ h => h)
   have ZN5 : Hid (NT < w5.heap.size) := Nat.lt_of_lt_of_le ZNd.out G5.size
   clear C5 G5 TYd XNd XSd CUd GCd ZNd
   refine hK.out _ _ (box_cells5 XN5.out) (fun hH => ?_)
   clear hK K
   try simp only [Act.put, List.setIfInBounds_toArray, List.set_cons_zero, List.set_cons_succ]
   clear hH
   refine rq 3 (by kernel_rfl) rfl (fun K hK => ?_)
   refine step_func rfl 40 [.tmp 18, .tmp 20] #[54, 73] rfl run40 [.agg #[.bool yl, .slice ya1 yn1 yq1, .slice ya2 yn2 yq2, .slice ya3 yn3 yq3, .slice ya4 yn4 yq4], .agg #[.int .i64 mo, .int .i64 mk, .int .i64 mv]] rfl (specInject_any 8 (⟨yl, .slice ya1 yn1 yq1, .slice ya2 yn2 yq2, .slice ya3 yn3 yq3, .slice ya4 yn4 yq4⟩) T mo mk mv w5 TY5.out.treeF.treeAt (Nat.le_trans (size_ok8 OK.out) (by decide))) ?_
   rintro e w6 ⟨y', N6, rfl, TD6, hb6⟩
   have OK6 : Hid (okT (injF T (mo, mk, mv)) = true) := injF_ok OK.out _
   have TE6 := TD6.ok8 OK6.out
   obtain ⟨ra1, ra2, ra3, ra4, rq1, rq2, rq3, rq4, hyr⟩ := (TE6.treeF.treeAt).shape
   subst hyr
   refine ⟨_, rfl, ?_⟩
   have TY6 : Hid (TreeD 8 w6 (fun g => NT < g) _ (injF T (mo, mk, mv))) := TE6.mono (fun g hg => Nat.lt_of_lt_of_le ZN5.out hg)
   have XN6 : Hid (OneAt w6 NT #[.bool yl, .slice ya1 yn1 yq1, .slice ya2 yn2 yq2, .slice ya3 yn3 yq3, .slice ya4 yn4 yq4]) := XN5.out.step hb6
   have XS6 : Hid (OneAt w6 w.heap.size #[.bool false, .slice none 0 0, .slice none 0 0, .slice none 0 0, .slice none 0 0]) := XS5.out.step hb6
   have CU6 : Hid (Cur w6 C) := CU5.out.below hb6
   have GC6 : Hid (Chg (fun g => g = C) w w6) := GC5.out.trans (Chg.of_below (F := fun g => g = C) hb6) (fun _ _ h => h)
   have ZN6 : Hid (NT < w6.heap.size) := Nat.lt_of_lt_of_le ZN5.out hb6.size
   clear TD6 TE6 hb6 TY5 XN5 XS5 CU5 GC5 ZN5
   generalize injF T (mo, mk, mv) = T6 at *
   generalize (T6).leaf = rl at *
   generalize (T6).pairs.length = rn1 at *
   generalize (T6).cuts.length = rn2 at *
   generalize (T6).kids.length = rn3 at *
   generalize (T6).buf.length = rn4 at *
   refine hK.out _ _ (box_cells5 XN6.out) (fun hH => ?_)
   clear hK K
   try simp only [Act.put, List.setIfInBounds_toArray, List.set_cons_zero, List.set_cons_succ]
   clear hH
   obtain ⟨⟨m0, m1, m2, m3, m4⟩, k0, k1, k2, k3, k4⟩ := box_all5 XN6.out
   have FIN : Hid (∀ v0 v1 v2 v3 v4, TreeD 8 (set5 w6 NT v0 v1 v2 v3 v4) (fun g => NT < g) (⟨rl, .slice ra1 rn1 rq1, .slice ra2 rn2 rq2, .slice ra3 rn3 rq3, .slice ra4 rn4 rq4⟩ : TV) T6 ∧ OneAt (set5 w6 NT v0 v1 v2 v3 v4) w.heap.size #[.bool false, .slice none 0 0, .slice none 0 0, .slice none 0 0, .slice none 0 0] ∧ Cur (set5 w6 NT v0 v1 v2 v3 v4) C ∧ Chg (fun g => g = C) w (set5 w6 NT v0 v1 v2 v3 v4) ∧ NT < (set5 w6 NT v0 v1 v2 v3 v4).heap.size) := fun v0 v1 v2 v3 v4 => by
    have hc := chg_set5 w6 NT v0 v1 v2 v3 v4
    exact ⟨TY6.out.chg hc (fun g hg e => by omega), XS6.out.chg hc (by omega), CU6.out.chg hc (fun g hg => by omega), GC6.out.trans hc (fun g hg e => by omega), Nat.lt_of_lt_of_le ZN6.out hc.size⟩
   clear TY6 XS6 CU6 GC6 ZN6
   refine wpAnyH_done (by kernel_rfl) ?_ _
   show Oper.wp _ _ _ _ _ _
   go_simp
   go_wp2_with fail
   go_roundw
   case rel => exact ⟨j + 1, rl, ra1, ra2, ra3, ra4, rn1, rn2, rn3, rn4, rq1, rq2, rq3, rq4, T6, by go_num, by omega, (FIN.out _ _ _ _ _).1, OK6, XN6.out.set5 _ _ _ _ _, (FIN.out _ _ _ _ _).2.1, (FIN.out _ _ _ _ _).2.2.1, (FIN.out _ _ _ _ _).2.2.2.1, (FIN.out _ _ _ _ _).2.2.2.2⟩
   case measure => simp [intOf]; omega
  ·have hi1 : ¬ (j : Int) < (K : Int) := by omega
   have HO : Hid _ := l1Once_any C 8 wr CU.out (by decide)
   go_wp2_with fail
   refine Calls.mono HO.out ?_
   rintro e w5 ⟨b, rfl, C5, G5⟩
   have TY5 : Hid (TreeD 8 w5 (fun g => NT < g) (⟨yl, .slice ya1 yn1 yq1, .slice ya2 yn2 yq2, .slice ya3 yn3 yq3, .slice ya4 yn4 yq4⟩ : TV) T) := TY.out.chg G5 (fun g hg e => by omega)
   have XN5 : Hid (OneAt w5 NT #[.bool yl, .slice ya1 yn1 yq1, .slice ya2 yn2 yq2, .slice ya3 yn3 yq3, .slice ya4 yn4 yq4]) := XN.out.chg G5 (by omega)
   have XS5 : Hid (OneAt w5 w.heap.size #[.bool false, .slice none 0 0, .slice none 0 0, .slice none 0 0, .slice none 0 0]) := XS.out.chg G5 (by omega)
   have CU5 : Hid (Cur w5 C) := C5
   have GC5 : Hid (Chg (fun g => g = C) w w5) := GC.out.trans G5 (fun _ _ h => h)
   have ZN5 : Hid (NT < w5.heap.size) := Nat.lt_of_lt_of_le ZN.out G5.size
   clear C5 G5 TY XN XS CU GC ZN HO
   go_upto_if 23 with fail
   go_cut [] (fun wx => ∃ (rl : Bool) (ra1 ra2 ra3 ra4 : Option Addr) (rn1 rn2 rn3 rn4 rq1 rq2 rq3 rq4 : Nat) (T6 : Tr), Hid (TreeD 8 wx (fun g => NT < g) (⟨rl, .slice ra1 rn1 rq1, .slice ra2 rn2 rq2, .slice ra3 rn3 rq3, .slice ra4 rn4 rq4⟩ : TV) T6) ∧ Hid (okT T6 = true) ∧ Hid (OneAt wx NT #[.bool rl, .slice ra1 rn1 rq1, .slice ra2 rn2 rq2, .slice ra3 rn3 rq3, .slice ra4 rn4 rq4]) ∧ Hid (OneAt wx w.heap.size #[.bool false, .slice none 0 0, .slice none 0 0, .slice none 0 0, .slice none 0 0]) ∧ Hid (Cur wx C) ∧ Hid (Chg (fun g => g = C) w wx) ∧ Hid (NT < wx.heap.size))
   case first =>
    cases b with
    | false =>
     go_wp2
     go_meet
     case rel => exact ⟨yl, ya1, ya2, ya3, ya4, yn1, yn2, yn3, yn4, yq1, yq2, yq3, yq4, T, TY5, OK, XN5, XS5, CU5, GC5, ZN5⟩
    | true =>
     have HD : Hid _ := specDrain_any 8 (⟨yl, .slice ya1 yn1 yq1, .slice ya2 yn2 yq2, .slice ya3 yn3 yq3, .slice ya4 yn4 yq4⟩) T w5 TY5.out.treeF.treeAt (Nat.le_trans (size_ok8 OK.out) (by decide))
     obtain ⟨c0, c1, c2, c3, c4⟩ := box_cells5 XN5.out
     go_wp2_with fail
     refine Calls.mono HD.out ?_
     rintro e w6 ⟨y', N6, rfl, TD6, hb6⟩
     have OK6 : Hid (okT (drnF T) = true) := drnF_ok OK.out
     have TE6 := TD6.ok8 OK6.out
     obtain ⟨ra1, ra2, ra3, ra4, rq1, rq2, rq3, rq4, hyr⟩ := (TE6.treeF.treeAt).shape
     subst hyr
     have TY6 : Hid (TreeD 8 w6 (fun g => NT < g) _ (drnF T)) := TE6.mono (fun g hg => Nat.lt_of_lt_of_le ZN5.out hg)
     have XN6 : Hid (OneAt w6 NT #[.bool yl, .slice ya1 yn1 yq1, .slice ya2 yn2 yq2, .slice ya3 yn3 yq3, .slice ya4 yn4 yq4]) := XN5.out.step hb6
     have XS6 : Hid (OneAt w6 w.heap.size #[.bool false, .slice none 0 0, .slice none 0 0, .slice none 0 0, .slice none 0 0]) := XS5.out.step hb6
     have CU6 : Hid (Cur w6 C) := CU5.out.below hb6
     have GC6 : Hid (Chg (fun g => g = C) w w6) := GC5.out.trans (Chg.of_below (F := fun g => g = C) hb6) (fun _ _ h => h)
     have ZN6 : Hid (NT < w6.heap.size) := Nat.lt_of_lt_of_le ZN5.out hb6.size
     clear TD6 TE6 hb6 TY5 XN5 XS5 CU5 GC5 ZN5 c0 c1 c2 c3 c4 HD
     generalize drnF T = T6 at *
     generalize (T6).leaf = rl at *
     generalize (T6).pairs.length = rn1 at *
     generalize (T6).cuts.length = rn2 at *
     generalize (T6).kids.length = rn3 at *
     generalize (T6).buf.length = rn4 at *
     obtain ⟨⟨m0, m1, m2, m3, m4⟩, k0, k1, k2, k3, k4⟩ := box_all5 XN6.out
     have FIN : Hid (∀ v0 v1 v2 v3 v4, TreeD 8 (set5 w6 NT v0 v1 v2 v3 v4) (fun g => NT < g) (⟨rl, .slice ra1 rn1 rq1, .slice ra2 rn2 rq2, .slice ra3 rn3 rq3, .slice ra4 rn4 rq4⟩ : TV) T6 ∧ OneAt (set5 w6 NT v0 v1 v2 v3 v4) w.heap.size #[.bool false, .slice none 0 0, .slice none 0 0, .slice none 0 0, .slice none 0 0] ∧ Cur (set5 w6 NT v0 v1 v2 v3 v4) C ∧ Chg (fun g => g = C) w (set5 w6 NT v0 v1 v2 v3 v4) ∧ NT < (set5 w6 NT v0 v1 v2 v3 v4).heap.size) := fun v0 v1 v2 v3 v4 => by
      have hc := chg_set5 w6 NT v0 v1 v2 v3 v4
      exact ⟨TY6.out.chg hc (fun g hg e => by omega), XS6.out.chg hc (by omega), CU6.out.chg hc (fun g hg => by omega), GC6.out.trans hc (fun g hg e => by omega), Nat.lt_of_lt_of_le ZN6.out hc.size⟩
     clear TY6 XS6 CU6 GC6 ZN6
     go_wp2
     go_meet
     case rel => exact ⟨rl, ra1, ra2, ra3, ra4, rn1, rn2, rn3, rn4, rq1, rq2, rq3, rq4, T6, (FIN.out _ _ _ _ _).1, OK6, XN6.out.set5 _ _ _ _ _, (FIN.out _ _ _ _ _).2.1, (FIN.out _ _ _ _ _).2.2.1, (FIN.out _ _ _ _ _).2.2.2.1, (FIN.out _ _ _ _ _).2.2.2.2⟩
   case rest =>
   obtain ⟨rl, ra1, ra2, ra3, ra4, rn1, rn2, rn3, rn4, rq1, rq2, rq3, rq4, T6, TY6, OK6, XN6, XS6, CU6, GC6, ZN6⟩ := hcut
   clear TY5 XN5 XS5 CU5 GC5 ZN5
   obtain ⟨c0, c1, c2, c3, c4⟩ := box_cells5 XN6.out
   obtain ⟨⟨m0, m1, m2, m3, m4⟩, k0, k1, k2, k3, k4⟩ := box_all5 XS6.out
   have FIN : Hid (∀ v0 v1 v2 v3 v4, TreeD 8 (set5 wc w.heap.size v0 v1 v2 v3 v4) (fun g => w.heap.size ≤ g) (⟨rl, .slice ra1 rn1 rq1, .slice ra2 rn2 rq2, .slice ra3 rn3 rq3, .slice ra4 rn4 rq4⟩ : TV) T6 ∧ Cur (set5 wc w.heap.size v0 v1 v2 v3 v4) C ∧ Chg (fun g => g = C) w (set5 wc w.heap.size v0 v1 v2 v3 v4)) := fun v0 v1 v2 v3 v4 => by
    have hc := chg_set5 wc w.heap.size v0 v1 v2 v3 v4
    exact ⟨(TY6.out.chg hc (fun g hg e => by omega)).mono (fun g hg => by omega), CU6.out.chg hc (fun g hg => by omega), GC6.out.trans hc (fun g hg e => by omega)⟩
   clear TY6 XN6 XS6 CU6 GC6 ZN6
   go_wp2
   refine bodyPost_ret (v := .agg #[.bool rl, .slice ra1 rn1 rq1, .slice ra2 rn2 rq2, .slice ra3 rn3 rq3, .slice ra4 rn4 rq4]) (by simp [results, Try.results32, go_sem, m0, m1, m2, m3, m4]) rfl ⟨⟨rl, .slice ra1 rn1 rq1, .slice ra2 rn2 rq2, .slice ra3 rn3 rq3, .slice ra4 rn4 rq4⟩, T6, rfl, OK6.out, (FIN.out _ _ _ _ _).1, (FIN.out _ _ _ _ _).2.1, (FIN.out _ _ _ _ _).2.2⟩
end
end Go.Proofs.Ytekcnibohikmdaa
