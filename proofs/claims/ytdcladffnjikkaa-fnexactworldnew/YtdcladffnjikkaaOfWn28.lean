/-
  The laws' functions that write marks into a world, and look for them, out of what they do with its five lists.
-/
import Derived.Test.YtdcladffnjikkaaOfWn25
import Derived.Test.YtdcladffnjikkaaOfWn27
namespace Go.Proofs.Ytdcladffnjikkaa
set_option maxRecDepth 100000
set_option maxHeartbeats 8000000
section
open Go.RowKit

theorem markRpcS_nil (a : Option Addr) (q : Nat) (k : Int) (w : World) : Calls Try.prog 19 #[.slice a 0 q, .int .i64 k] w fun e w' => e = .returned (.int .i64 k) ∧ w' = w := by
 go_enter Try.func19, Try.ntmps19
 go_wp2
 go_loop [1, 5] (fun kk i => kk = .int .i64 k ∧ i = .int .i64 0) (fun _ _ => 0)
 case atStart => exact ⟨rfl, rfl⟩
 case round =>
  obtain ⟨rfl, rfl⟩ := hrel
  go_wp2
  go_ret
  exact ⟨rfl, rfl⟩
theorem markCmdS_nil (a : Option Addr) (q : Nat) (k : Int) (w : World) : Calls Try.prog 20 #[.slice a 0 q, .int .i64 k] w fun e w' => e = .returned (.int .i64 k) ∧ w' = w := by
 go_enter Try.func20, Try.ntmps20
 go_wp2
 go_loop [1, 5] (fun kk i => kk = .int .i64 k ∧ i = .int .i64 0) (fun _ _ => 0)
 case atStart => exact ⟨rfl, rfl⟩
 case round =>
  obtain ⟨rfl, rfl⟩ := hrel
  go_wp2
  go_ret
  exact ⟨rfl, rfl⟩
theorem markLeadS_nil (a : Option Addr) (q : Nat) (k : Int) (w : World) : Calls Try.prog 22 #[.slice a 0 q, .int .i64 k] w fun e w' => e = .returned (.int .i64 k) ∧ w' = w := by
 go_enter Try.func22, Try.ntmps22
 go_wp2
 go_loop [1, 5] (fun kk i => kk = .int .i64 k ∧ i = .int .i64 0) (fun _ _ => 0)
 case atStart => exact ⟨rfl, rfl⟩
 case round =>
  obtain ⟨rfl, rfl⟩ := hrel
  go_wp2
  go_ret
  exact ⟨rfl, rfl⟩
theorem heldRpcS_nil (a : Option Addr) (q : Nat) (k : Int) (w : World) : Calls Try.prog 24 #[.slice a 0 q, .int .i64 k] w fun e w' => e = .returned (.int .i64 k) ∧ w' = w := by
 go_enter Try.func24, Try.ntmps24
 go_wp2
 go_loop [1, 5] (fun kk i => kk = .int .i64 k ∧ i = .int .i64 0) (fun _ _ => 0)
 case atStart => exact ⟨rfl, rfl⟩
 case round =>
  obtain ⟨rfl, rfl⟩ := hrel
  go_wp2
  go_ret
  exact ⟨rfl, rfl⟩
theorem heldCmdS_nil (a : Option Addr) (q : Nat) (k : Int) (w : World) : Calls Try.prog 25 #[.slice a 0 q, .int .i64 k] w fun e w' => e = .returned (.int .i64 k) ∧ w' = w := by
 go_enter Try.func25, Try.ntmps25
 go_wp2
 go_loop [1, 5] (fun kk i => kk = .int .i64 k ∧ i = .int .i64 0) (fun _ _ => 0)
 case atStart => exact ⟨rfl, rfl⟩
 case round =>
  obtain ⟨rfl, rfl⟩ := hrel
  go_wp2
  go_ret
  exact ⟨rfl, rfl⟩
theorem heldLeadS_nil (a : Option Addr) (q : Nat) (k : Int) (w : World) : Calls Try.prog 27 #[.slice a 0 q, .int .i64 k] w fun e w' => e = .returned (.int .i64 k) ∧ w' = w := by
 go_enter Try.func27, Try.ntmps27
 go_wp2
 go_loop [1, 5] (fun kk i => kk = .int .i64 k ∧ i = .int .i64 0) (fun _ _ => 0)
 case atStart => exact ⟨rfl, rfl⟩
 case round =>
  obtain ⟨rfl, rfl⟩ := hrel
  go_wp2
  go_ret
  exact ⟨rfl, rfl⟩
theorem heldDoneS_nil (a : Option Addr) (q : Nat) (k : Int) (w : World) : Calls Try.prog 26 #[.slice a 0 q, .int .i64 k] w fun e w' => e = .returned (.int .i64 k) ∧ w' = w := by
 go_enter Try.func26, Try.ntmps26
 go_wp2
 go_loop [1, 5] (fun kk i => kk = .int .i64 k ∧ i = .int .i64 0) (fun _ _ => 0)
 case atStart => exact ⟨rfl, rfl⟩
 case round =>
  obtain ⟨rfl, rfl⟩ := hrel
  go_wp2
  go_ret
  exact ⟨rfl, rfl⟩

theorem markWorld_c {sz : Int} {na ra ca da la : Option Addr} {ln nc lr rc lk cc ld dc ll lc : Nat} {k k1 k2 k3 k4 k5 : Int} {A0 A1 A2 A3 A4 A5 : World → Prop} {Pm : Nat → Prop} (w : World) (hP : ∀ g, Pm g → g < w.heap.size) (h0 : ∀ u, Below w.heap.size w u → A0 u)
  (c1 : ∀ u, A0 u → Calls Try.prog 18 #[.slice na ln nc, .int .i64 k] u fun e u' => e = .returned (.int .i64 k1) ∧ A1 u' ∧ Chg Pm u u')
  (c2 : ∀ u, A1 u → Calls Try.prog 19 #[.slice ra lr rc, .int .i64 k1] u fun e u' => e = .returned (.int .i64 k2) ∧ A2 u' ∧ Chg Pm u u')
  (c3 : ∀ u, A2 u → Calls Try.prog 20 #[.slice ca lk cc, .int .i64 k2] u fun e u' => e = .returned (.int .i64 k3) ∧ A3 u' ∧ Chg Pm u u')
  (c4 : ∀ u, A3 u → Calls Try.prog 21 #[.slice da ld dc, .int .i64 k3] u fun e u' => e = .returned (.int .i64 k4) ∧ A4 u' ∧ Chg Pm u u')
  (c5 : ∀ u, A4 u → Calls Try.prog 22 #[.slice la ll lc, .int .i64 k4] u fun e u' => e = .returned (.int .i64 k5) ∧ A5 u' ∧ Chg Pm u u') :
  Calls Try.prog 7 #[.agg #[.int .i64 sz, .slice na ln nc, .slice ra lr rc, .slice ca lk cc, .slice da ld dc, .slice la ll lc], .int .i64 k] w fun e w' => e = .returned (.int .i64 k5) ∧ A5 w' ∧ Chg Pm w w' := by
 have B1 := hq (h0 _ (bel_nw w (.cells #[.int .i64 sz, .slice na ln nc, .slice ra lr rc, .slice ca lk cc, .slice da ld dc, .slice la ll lc] 28)))
 have N1 : Hid (MBox 28 (w.alloc (.cells #[.int .i64 sz, .slice na ln nc, .slice ra lr rc, .slice ca lk cc, .slice da ld dc, .slice la ll lc] 28)) w.heap.size #[.int .i64 sz, .slice na ln nc, .slice ra lr rc, .slice ca lk cc, .slice da ld dc, .slice la ll lc]) := MBox.start _ w _
 have CH : Hid (Chg Pm w (w.alloc (.cells #[.int .i64 sz, .slice na ln nc, .slice ra lr rc, .slice ca lk cc, .slice da ld dc, .slice la ll lc] 28))) := (Chg.refl _ _).alloc _
 have HP := hq hP
 have C1 := hq c1
 have C2 := hq c2
 have C3 := hq c3
 have C4 := hq c4
 have C5 := hq c5
 clear hP h0 c1 c2 c3 c4 c5
 have x1 := N1.out.cells
 go_enter Try.func7, Try.ntmps7
 go_wp2_with fail
 generalize w.alloc (.cells #[.int .i64 sz, .slice na ln nc, .slice ra lr rc, .slice ca lk cc, .slice da ld dc, .slice la ll lc] 28) = W at *
 refine (C1.out _ B1.out).mono ?_
 rintro e1 w1 ⟨rfl, b, g⟩
 replace B1 := hq b
 replace N1 : Hid (MBox 28 w1 w.heap.size #[.int .i64 sz, .slice na ln nc, .slice ra lr rc, .slice ca lk cc, .slice da ld dc, .slice la ll lc]) := hq (row_chg N1.out g (fun e => absurd (HP.out _ e) (Nat.lt_irrefl _)))
 replace CH := hq (CH.out.trans g (fun _ _ e => e))
 clear b g x1 C1
 have x1 := N1.out.cells
 go_wp2_with fail
 refine (C2.out _ B1.out).mono ?_
 rintro e2 w2 ⟨rfl, b, g⟩
 replace B1 := hq b
 replace N1 : Hid (MBox 28 w2 w.heap.size #[.int .i64 sz, .slice na ln nc, .slice ra lr rc, .slice ca lk cc, .slice da ld dc, .slice la ll lc]) := hq (row_chg N1.out g (fun e => absurd (HP.out _ e) (Nat.lt_irrefl _)))
 replace CH := hq (CH.out.trans g (fun _ _ e => e))
 clear b g x1 C2
 have x1 := N1.out.cells
 go_wp2_with fail
 refine (C3.out _ B1.out).mono ?_
 rintro e3 w3 ⟨rfl, b, g⟩
 replace B1 := hq b
 replace N1 : Hid (MBox 28 w3 w.heap.size #[.int .i64 sz, .slice na ln nc, .slice ra lr rc, .slice ca lk cc, .slice da ld dc, .slice la ll lc]) := hq (row_chg N1.out g (fun e => absurd (HP.out _ e) (Nat.lt_irrefl _)))
 replace CH := hq (CH.out.trans g (fun _ _ e => e))
 clear b g x1 C3
 have x1 := N1.out.cells
 go_wp2_with fail
 refine (C4.out _ B1.out).mono ?_
 rintro e4 w4 ⟨rfl, b, g⟩
 replace B1 := hq b
 replace N1 : Hid (MBox 28 w4 w.heap.size #[.int .i64 sz, .slice na ln nc, .slice ra lr rc, .slice ca lk cc, .slice da ld dc, .slice la ll lc]) := hq (row_chg N1.out g (fun e => absurd (HP.out _ e) (Nat.lt_irrefl _)))
 replace CH := hq (CH.out.trans g (fun _ _ e => e))
 clear b g x1 C4
 have x1 := N1.out.cells
 go_wp2_with fail
 refine (C5.out _ B1.out).mono ?_
 rintro e5 w5 ⟨rfl, b, g⟩
 replace B1 := hq b
 replace N1 : Hid (MBox 28 w5 w.heap.size #[.int .i64 sz, .slice na ln nc, .slice ra lr rc, .slice ca lk cc, .slice da ld dc, .slice la ll lc]) := hq (row_chg N1.out g (fun e => absurd (HP.out _ e) (Nat.lt_irrefl _)))
 replace CH := hq (CH.out.trans g (fun _ _ e => e))
 clear b g x1 C5
 have x1 := N1.out.cells
 go_wp2
 go_ret
 exact ⟨rfl, B1.out, CH.out⟩

theorem heldWorld_c {sz : Int} {na ra ca da la : Option Addr} {ln nc lr rc lk cc ld dc ll lc : Nat} {k k1 k2 k3 k4 k5 : Int} (w : World) (n1 : ¬ k1 < 0) (n2 : ¬ k2 < 0) (n3 : ¬ k3 < 0) (n4 : ¬ k4 < 0) (n5 : ¬ k5 < 0)
  (c1 : ∀ u, Below w.heap.size w u → Calls Try.prog 23 #[.slice na ln nc, .int .i64 k] u fun e u' => e = .returned (.int .i64 k1) ∧ u' = u)
  (c2 : ∀ u, Below w.heap.size w u → Calls Try.prog 24 #[.slice ra lr rc, .int .i64 k1] u fun e u' => e = .returned (.int .i64 k2) ∧ u' = u)
  (c3 : ∀ u, Below w.heap.size w u → Calls Try.prog 25 #[.slice ca lk cc, .int .i64 k2] u fun e u' => e = .returned (.int .i64 k3) ∧ u' = u)
  (c4 : ∀ u, Below w.heap.size w u → Calls Try.prog 26 #[.slice da ld dc, .int .i64 k3] u fun e u' => e = .returned (.int .i64 k4) ∧ u' = u)
  (c5 : ∀ u, Below w.heap.size w u → Calls Try.prog 27 #[.slice la ll lc, .int .i64 k4] u fun e u' => e = .returned (.int .i64 k5) ∧ u' = u) :
  Calls Try.prog 8 #[.agg #[.int .i64 sz, .slice na ln nc, .slice ra lr rc, .slice ca lk cc, .slice da ld dc, .slice la ll lc], .int .i64 k] w fun e w' => e = .returned (.int .i64 k5) ∧ Below w.heap.size w w' := by
 have B1 := hq (bel_nw w (.cells #[.int .i64 sz, .slice na ln nc, .slice ra lr rc, .slice ca lk cc, .slice da ld dc, .slice la ll lc] 28))
 have N1 : Hid (MBox 28 (w.alloc (.cells #[.int .i64 sz, .slice na ln nc, .slice ra lr rc, .slice ca lk cc, .slice da ld dc, .slice la ll lc] 28)) w.heap.size #[.int .i64 sz, .slice na ln nc, .slice ra lr rc, .slice ca lk cc, .slice da ld dc, .slice la ll lc]) := MBox.start _ w _
 have C1 := hq c1
 have C2 := hq c2
 have C3 := hq c3
 have C4 := hq c4
 have C5 := hq c5
 clear c1 c2 c3 c4 c5
 have x1 := N1.out.cells
 go_enter Try.func8, Try.ntmps8
 go_wp2_with fail
 generalize w.alloc (.cells #[.int .i64 sz, .slice na ln nc, .slice ra lr rc, .slice ca lk cc, .slice da ld dc, .slice la ll lc] 28) = W at *
 refine (C1.out _ B1.out).mono ?_
 rintro e1 w1 ⟨rfl, hw⟩
 subst hw
 go_wp2_with fail
 refine (C2.out _ B1.out).mono ?_
 rintro e2 w2 ⟨rfl, hw⟩
 subst hw
 go_wp2_with fail
 refine (C3.out _ B1.out).mono ?_
 rintro e3 w3 ⟨rfl, hw⟩
 subst hw
 go_wp2_with fail
 refine (C4.out _ B1.out).mono ?_
 rintro e4 w4 ⟨rfl, hw⟩
 subst hw
 go_wp2_with fail
 refine (C5.out _ B1.out).mono ?_
 rintro e5 w5 ⟨rfl, hw⟩
 subst hw
 go_wp2
 go_ret
 exact ⟨rfl, B1.out⟩
end
end Go.Proofs.Ytdcladffnjikkaa
