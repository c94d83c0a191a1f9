/-
  The walk of the law FnExactFeed.
  What an argument that is a list of pairs holds: opened once into a row of cells.
-/
import Derived.Test.YtmdajbbpigbdcaaGreatOfFeed35
import Derived.Test.YtmdajbbpigbdcaaGreatOfFeed36
import Derived.Test.YtmdajbbpigbdcaaGreatOfFeed38
import Derived.Test.YtmdajbbpigbdcaaGreatOfFeed1
import Derived.ProofKit
import Derived.Deep.SlicePairs
namespace Go.Proofs.YtmdajbbpigbdcaaGreat
set_option maxRecDepth 100000
set_option maxHeartbeats 8000000
section
open Go.RowKit

theorem feedD_small {n : Nat} {N : NodV} {D : Nd} (size ti : Int) (h : D.small n) : (feedD N D size ti).small n := by
 obtain ⟨h1, h2, h3, h4, h5, h6, h7, h8⟩ := h
 have hz : sizeT n zT ≤ 1048576 := by
  cases n with
  | zero => simp [sizeT]
  | succ n' => simp [sizeT, zT]
 unfold feedD
 split
 ·split
  ·exact ⟨Nat.zero_le _, h2, h3⟩
  ·exact ⟨Nat.le_trans (entsB_len _ _ _) h1, hz, Nat.zero_le _⟩
 ·exact ⟨Nat.zero_le _, hz, Nat.zero_le _⟩
theorem markRK_small {n : Nat} {D : Rd} (h : D.small n) : markRK n 1 D ≤ 67108864 ∧ ¬ markRK n 1 D < 0 := by
 obtain ⟨h1, h2, h3⟩ := h
 have a := mkT_le n D.T
 unfold markRK
 omega

theorem fnExactFeed_any (n : Nat) (N : NodV) (D : Nd) (size ti : Int) (w : World) (h : NodAt n w N D) :
  Calls Tryz.prog 4 #[N.val, .int .i64 size, .int .i64 ti] w fun e w' => e = .returned (.bool true) ∧ Below w.heap.size w w' := by
 have TT := hid9 h
 have SZ1 : Hid (∀ u, Below w.heap.size w u → Calls Tryz.prog 5 #[N.val, .int .i64 1048576] u fun e w' => ∃ r : Int, e = .returned (.int .i64 r) ∧ (¬ r < 0 → D.small n) ∧ Below u.heap.size u w') := fun u hu => szNode_any n N D 1048576 u (TT.out.below hu) (by omega) (by omega)
 have TO1 : Hid (∀ u, Below w.heap.size w u → D.small n → Calls Tryz.prog 7 #[N.val] u fun e w' => ∃ M : NodV, e = .returned M.val ∧ N.like M ∧ NodD n w' u.heap.size M D ∧ Below u.heap.size u w') := fun u hu hs => toNodeD_any n N D u (TT.out.below hu) hs
 have SP1 : Hid (∀ u M, N.like M → NodAt n u M D → D.small n → Calls Tryz.prog 12 #[M.val, .int .i64 size, .int .i64 ti] u fun e w' => ∃ K : RpcV, e = .returned (.tuple #[K.val, .bool (feedB N D size ti)]) ∧ (feedV N D size ti).like K ∧ RpcAt n w' K (feedD N D size ti) ∧ Below u.heap.size u w') := fun u M hl hm hs => by
  have := specFeed_any n M D size ti u hm hs
  rw [feedB_like D size ti hl, feedV_like D size ti hl, feedD_like D size ti hl] at this
  exact this
 have IP1 : Hid (∀ u M lo, N.like M → NodD n u lo M D → D.small n → Calls Tryz.prog 13 #[M.val, .int .i64 size, .int .i64 ti] u fun e w' => ∃ K : RpcV, e = .returned (.tuple #[K.val, .bool (feedB N D size ti)]) ∧ (feedV N D size ti).like K ∧ RpcDh n w' u.heap.size w'.heap.size K (feedD N D size ti) ∧ Below u.heap.size u w') := fun u M lo hl hm hs => by
  obtain ⟨F1, F2, s1, s2⟩ := hm.srcs
  have := implFeed_any n M D size ti F1 u hm.at hs s1
  rw [feedB_like D size ti hl, feedV_like D size ti hl, feedD_like D size ti hl] at this
  exact this
 have EQ1 : Hid (∀ u K K', (feedV N D size ti).like K → (feedV N D size ti).like K' → RpcAt n u K (feedD N D size ti) → RpcAt n u K' (feedD N D size ti) → Calls Tryz.prog 14 #[K.val, K'.val] u fun e w' => e = .returned (.bool true) ∧ Below u.heap.size u w') := fun u K K' h1 h2 h3 h4 => eqRpc_any n K K' _ u (h1.both h2) h3 h4
 have EQ2 : Hid (∀ u M M', N.like M → N.like M' → NodAt n u M D → NodAt n u M' D → Calls Tryz.prog 9 #[M.val, M'.val] u fun e w' => e = .returned (.bool true) ∧ Below u.heap.size u w') := fun u M M' h1 h2 h3 h4 => eqNode_any n M M' D u (h1.both h2) h3 h4
 have MK1 : Hid (∀ u M lo hi, NodDh n u lo hi M D → D.small n → Calls Tryz.prog 10 #[M.val, .int .i64 1] u fun e w' => e = .returned (.int .i64 (markK n 1 D)) ∧ Chg (fun g => lo ≤ g ∧ g < hi) u w') := fun u M lo hi hm hs => (markNode_d n M D lo hi 1 u hm (by omega) (markK_small hs).1).mono (fun e w' ⟨a, b, c⟩ => ⟨a, c⟩)
 have MK2 : Hid (∀ u K lo hi, RpcDh n u lo hi K (feedD N D size ti) → D.small n → Calls Tryz.prog 15 #[K.val, .int .i64 1] u fun e w' => e = .returned (.int .i64 (markRK n 1 (feedD N D size ti))) ∧ RpcDh n w' lo hi K (markRD n 1 (feedD N D size ti)) ∧ Chg (fun g => lo ≤ g ∧ g < hi) u w') := fun u K lo hi hm hs => markRpc_d n K _ lo hi 1 u hm (by omega) (markRK_small (feedD_small size ti hs)).1
 have HD1 : Hid (∀ u K, RpcAt n u K (markRD n 1 (feedD N D size ti)) → D.small n → Calls Tryz.prog 16 #[K.val, .int .i64 1] u fun e w' => e = .returned (.int .i64 (markRK n 1 (feedD N D size ti))) ∧ Below u.heap.size u w') := fun u K hm hs => heldRpc_m n K _ 1 u hm (by omega) (markRK_small (feedD_small size ti hs)).1
 have KM : Hid (D.small n → ¬ markK n 1 D < 0 ∧ ¬ markRK n 1 (feedD N D size ti) < 0) := fun hs => ⟨(markK_small hs).2, (markRK_small (feedD_small size ti hs)).2⟩
 generalize markK n 1 D = mx at *
 generalize markRK n 1 (feedD N D size ti) = mg at *
 generalize markRD n 1 (feedD N D size ti) = DM at *
 generalize feedD N D size ti = DD at *
 generalize (feedV N D size ti).like = RL at *
 generalize feedB N D size ti = bf at *
 generalize N.like = LN at *
 have hbb : (bf != bf) = false := by cases bf <;> rfl
 clear h TT
 obtain ⟨id, te, vo, lb, lt, lv, ⟨⟨sl, sp, sc, sk, sb⟩, sv⟩, ro, vv, nv, mv, cm, ⟨⟨ol, op, oc, ok, ob⟩, ov⟩⟩ := N
 replace SZ1 : Hid (∀ u, Below w.heap.size w u → Calls Tryz.prog 5 #[.agg #[.int .i64 id, .int .i64 te, .int .i64 vo, .int .i64 lb, .int .i64 lt, lv, .bool sl, sp, sc, sk, sb, sv, .int .i64 ro, vv, nv, mv, .int .i64 cm, .bool ol, op, oc, ok, ob, ov], .int .i64 1048576] u fun e w' => ∃ r : Int, e = .returned (.int .i64 r) ∧ (¬ r < 0 → D.small n) ∧ Below u.heap.size u w') := SZ1
 replace TO1 : Hid (∀ u, Below w.heap.size w u → D.small n → Calls Tryz.prog 7 #[.agg #[.int .i64 id, .int .i64 te, .int .i64 vo, .int .i64 lb, .int .i64 lt, lv, .bool sl, sp, sc, sk, sb, sv, .int .i64 ro, vv, nv, mv, .int .i64 cm, .bool ol, op, oc, ok, ob, ov]] u fun e w' => ∃ M : NodV, e = .returned M.val ∧ LN M ∧ NodD n w' u.heap.size M D ∧ Below u.heap.size u w') := TO1
 have B1 : Hid (Below w.heap.size w (w.alloc (.cells #[.int .i64 id, .int .i64 te, .int .i64 vo, .int .i64 lb, .int .i64 lt, lv, .bool sl, sp, sc, sk, sb, sv, .int .i64 ro, vv, nv, mv, .int .i64 cm, .bool ol, op, oc, ok, ob, ov] 36))) := bel_nw _ _
 have HIL : Hid ((Tryz.prog.info? 36).map (·.size) = some (List.length ([.int .i64 id, .int .i64 te, .int .i64 vo, .int .i64 lb, .int .i64 lt, lv, .bool sl, sp, sc, sk, sb, sv, .int .i64 ro, vv, nv, mv, .int .i64 cm, .bool ol, op, oc, ok, ob, ov] : List Value))) := (show (Tryz.prog.info? 36).map (·.size) = some 23 by kernel_rfl)
 have Y1 : Hid ((w.alloc (.cells #[.int .i64 id, .int .i64 te, .int .i64 vo, .int .i64 lb, .int .i64 lt, lv, .bool sl, sp, sc, sk, sb, sv, .int .i64 ro, vv, nv, mv, .int .i64 cm, .bool ol, op, oc, ok, ob, ov] 36)).heap[w.heap.size]? = some (.cells (List.toArray ([.int .i64 id, .int .i64 te, .int .i64 vo, .int .i64 lb, .int .i64 lt, lv, .bool sl, sp, sc, sk, sb, sv, .int .i64 ro, vv, nv, mv, .int .i64 cm, .bool ol, op, oc, ok, ob, ov] : List Value)) 36 (0, 0))) := MBox.start 36 w #[.int .i64 id, .int .i64 te, .int .i64 vo, .int .i64 lb, .int .i64 lt, lv, .bool sl, sp, sc, sk, sb, sv, .int .i64 ro, vv, nv, mv, .int .i64 cm, .bool ol, op, oc, ok, ob, ov]
 have zw : w.heap.size < (w.alloc (.cells #[.int .i64 id, .int .i64 te, .int .i64 vo, .int .i64 lb, .int .i64 lt, lv, .bool sl, sp, sc, sk, sb, sv, .int .i64 ro, vv, nv, mv, .int .i64 cm, .bool ol, op, oc, ok, ob, ov] 36)).heap.size := by simp
 show Calls Tryz.prog 4 #[.agg #[.int .i64 id, .int .i64 te, .int .i64 vo, .int .i64 lb, .int .i64 lt, lv, .bool sl, sp, sc, sk, sb, sv, .int .i64 ro, vv, nv, mv, .int .i64 cm, .bool ol, op, oc, ok, ob, ov], .int .i64 size, .int .i64 ti] w _
 go_enter Tryz.func4, Tryz.ntmps4
 go_upto_region 2 with fail
 generalize (w.alloc (.cells #[.int .i64 id, .int .i64 te, .int .i64 vo, .int .i64 lb, .int .i64 lt, lv, .bool sl, sp, sc, sk, sb, sv, .int .i64 ro, vv, nv, mv, .int .i64 cm, .bool ol, op, oc, ok, ob, ov] 36)) = W at *
 generalize ([.int .i64 id, .int .i64 te, .int .i64 vo, .int .i64 lb, .int .i64 lt, lv, .bool sl, sp, sc, sk, sb, sv, .int .i64 ro, vv, nv, mv, .int .i64 cm, .bool ol, op, oc, ok, ob, ov] : List Value) = cs at *
 have ra := range_of Y1.out
 rw [List.toList_toArray] at ra
 go_wp2_with (refine wpList_load_g (by rfl) 36 _ rfl w.heap.size 0 rfl cs _ ra Tryz.underlying36 rfl HIL.out ?_)
 refine (SZ1.out _ B1.out).mono ?_
 rintro e w1 ⟨r, rfl, hsm, b1⟩
 have SM := hid9 hsm
 replace Y1 := hid9 (step_at Y1.out b1)
 replace B1 := hid9 (Below.and B1.out b1)
 have z1 := b1.size
 clear b1 ra hsm SZ1
 by_cases hr : r < 0
 ·go_wp2
  go_ret
  exact ⟨rfl, B1.out⟩
 replace SM := hid9 (SM.out (by omega))
 obtain ⟨km1, km2⟩ := KM.out SM.out
 obtain ⟨mn, hmn⟩ := Int.eq_ofNat_of_zero_le (show 0 ≤ mx by omega)
 subst hmn
 have ra := range_of Y1.out
 rw [List.toList_toArray] at ra
 go_wp2_with (refine wpList_load_g (by rfl) 36 _ rfl w.heap.size 0 rfl cs _ ra Tryz.underlying36 rfl HIL.out ?_)
 refine (TO1.out _ B1.out SM.out).mono ?_
 rintro e w2 ⟨M0, rfl, lk0, t0, b2⟩
 have SP := hid9 (SP1.out w2 M0 lk0 t0.at SM.out)
 replace Y1 := hid9 (step_at Y1.out b2)
 replace B1 := hid9 (Below.and B1.out b2)
 have z2 := b2.size
 clear lk0 b2 t0 ra SP1
 generalize M0.val = v0 at *
 clear M0
 go_wp2_with fail
 refine SP.out.mono ?_
 rintro e w3 ⟨KW, rfl, lkw, tw, b3⟩
 replace Y1 := hid9 (step_at Y1.out b3)
 replace B1 := hid9 (Below.and B1.out b3)
 have z3 := b3.size
 have LKW := hid9 lkw
 clear b3 SP
 obtain ⟨ws, wsv, wsl, wso⟩ := tw.cells
 have wsh : Hid ((Tryz.prog.info? 57).map (·.size) = some ws.length) := by show _ = _; rw [wsl]; kernel_rfl
 have wsk : Hid ((Tryz.prog.info? 57).map (·.size) = some ws.toArray.size) := by show _ = _; rw [List.size_toArray]; exact wsh.out
 have NA := newAll (w := w3) (t := 57) (A := #[.int .i64 0, .int .i64 0, .int .i64 0, .int .i64 0, .int .i64 0, .int .i64 0, .int .i64 0, .bool false, .slice none 0 0, .bool false, .slice none 0 0, .slice none 0 0, .slice none 0 0, .slice none 0 0, .slice none 0 0]) (vs := ws) wsl.symm
 have TH : Hid (World.there (w3.alloc (.cells #[.int .i64 0, .int .i64 0, .int .i64 0, .int .i64 0, .int .i64 0, .int .i64 0, .int .i64 0, .bool false, .slice none 0 0, .bool false, .slice none 0 0, .slice none 0 0, .slice none 0 0, .slice none 0 0, .slice none 0 0] 57)) w3.heap.size 0 ws.toArray.size) := there_of (heap_alloc_new w3 _) (show 15 = ws.toArray.size by rw [List.size_toArray, wsl])
 have SZws : w3.heap.size + 1 ≤ ((w3.alloc (.cells #[.int .i64 0, .int .i64 0, .int .i64 0, .int .i64 0, .int .i64 0, .int .i64 0, .int .i64 0, .bool false, .slice none 0 0, .bool false, .slice none 0 0, .slice none 0 0, .slice none 0 0, .slice none 0 0, .slice none 0 0] 57)).setCells w3.heap.size 0 ws).heap.size := by have := (Chg.setCells (F := fun _ => True) (g := w3.heap.size) (fun _ => trivial) ws 0 _ (Chg.refl _ (w3.alloc (.cells #[.int .i64 0, .int .i64 0, .int .i64 0, .int .i64 0, .int .i64 0, .int .i64 0, .int .i64 0, .bool false, .slice none 0 0, .bool false, .slice none 0 0, .slice none 0 0, .slice none 0 0, .slice none 0 0, .slice none 0 0] 57)))).size; simpa using this
 have Xws := hid9 NA.2
 have wsV := hid9 wsv
 replace Y1 := hid9 (step_at Y1.out NA.1)
 replace B1 := hid9 (Below.and B1.out NA.1)
 rw [wsv]
 have NAV := hid9 NA.1
 clear NA wsv wsl
 go_upto_region 6 with (refine wpList_store_mid rfl 57 _ _ rfl w3.heap.size 0 ws.toArray rfl rfl TH.out wsk.out wso ?_)
 clear TH wso wsk
 generalize (w3.alloc (.cells #[.int .i64 0, .int .i64 0, .int .i64 0, .int .i64 0, .int .i64 0, .int .i64 0, .int .i64 0, .bool false, .slice none 0 0, .bool false, .slice none 0 0, .slice none 0 0, .slice none 0 0, .slice none 0 0, .slice none 0 0] 57)).setCells w3.heap.size 0 ws = V4 at *
 have TW := hid9 tw
 clear tw lkw
 have BV : Hid (Below w3.heap.size w3 V4) := NAV.out
 have ra := range_of Y1.out
 rw [List.toList_toArray] at ra
 go_wp2_with (refine wpList_load_g (by rfl) 36 _ rfl w.heap.size 0 rfl cs _ ra Tryz.underlying36 rfl HIL.out ?_)
 refine (TO1.out _ B1.out SM.out).mono ?_
 rintro e w5 ⟨MX, rfl, lkx, tx, b5⟩
 replace Y1 := hid9 (step_at Y1.out b5)
 replace B1 := hid9 (Below.and B1.out b5)
 replace Xws := hid9 (step_at Xws.out b5)
 replace BV := hid9 (Below.and BV.out b5)
 have z5 := b5.size
 have LKX := hid9 lkx
 have XN := hid9 tx.h
 clear b5 lkx ra NAV
 obtain ⟨xs, xsv, xsl, xso⟩ := tx.at.cells
 have xsh : Hid ((Tryz.prog.info? 50).map (·.size) = some xs.length) := by show _ = _; rw [xsl]; kernel_rfl
 have xsk : Hid ((Tryz.prog.info? 50).map (·.size) = some xs.toArray.size) := by show _ = _; rw [List.size_toArray]; exact xsh.out
 have NA := newAll (w := w5) (t := 50) (A := #[.int .i64 0, .int .i64 0, .int .i64 0, .int .i64 0, .int .i64 0, .slice none 0 0, .bool false, .slice none 0 0, .slice none 0 0, .slice none 0 0, .slice none 0 0, .slice none 0 0, .int .i64 0, .slice none 0 0, .slice none 0 0, .slice none 0 0, .int .i64 0, .bool false, .slice none 0 0, .slice none 0 0, .slice none 0 0, .slice none 0 0, .slice none 0 0]) (vs := xs) xsl.symm
 have TH : Hid (World.there (w5.alloc (.cells #[.int .i64 0, .int .i64 0, .int .i64 0, .int .i64 0, .int .i64 0, .slice none 0 0, .bool false, .slice none 0 0, .slice none 0 0, .slice none 0 0, .slice none 0 0, .slice none 0 0, .int .i64 0, .slice none 0 0, .slice none 0 0, .slice none 0 0, .int .i64 0, .bool false, .slice none 0 0, .slice none 0 0, .slice none 0 0, .slice none 0 0, .slice none 0 0] 50)) w5.heap.size 0 xs.toArray.size) := there_of (heap_alloc_new w5 _) (show 23 = xs.toArray.size by rw [List.size_toArray, xsl])
 have SZxs : w5.heap.size + 1 ≤ ((w5.alloc (.cells #[.int .i64 0, .int .i64 0, .int .i64 0, .int .i64 0, .int .i64 0, .slice none 0 0, .bool false, .slice none 0 0, .slice none 0 0, .slice none 0 0, .slice none 0 0, .slice none 0 0, .int .i64 0, .slice none 0 0, .slice none 0 0, .slice none 0 0, .int .i64 0, .bool false, .slice none 0 0, .slice none 0 0, .slice none 0 0, .slice none 0 0, .slice none 0 0] 50)).setCells w5.heap.size 0 xs).heap.size := by have := (Chg.setCells (F := fun _ => True) (g := w5.heap.size) (fun _ => trivial) xs 0 _ (Chg.refl _ (w5.alloc (.cells #[.int .i64 0, .int .i64 0, .int .i64 0, .int .i64 0, .int .i64 0, .slice none 0 0, .bool false, .slice none 0 0, .slice none 0 0, .slice none 0 0, .slice none 0 0, .slice none 0 0, .int .i64 0, .slice none 0 0, .slice none 0 0, .slice none 0 0, .int .i64 0, .bool false, .slice none 0 0, .slice none 0 0, .slice none 0 0, .slice none 0 0, .slice none 0 0] 50)))).size; simpa using this
 have Xxs := hid9 NA.2
 have xsV := hid9 xsv
 replace Y1 := hid9 (step_at Y1.out NA.1)
 replace B1 := hid9 (Below.and B1.out NA.1)
 replace Xws := hid9 (step_at Xws.out NA.1)
 replace BV := hid9 (Below.and BV.out NA.1)
 replace XN := hid9 (XN.out.below NA.1)
 rw [xsv]
 have NAV := hid9 NA.1
 clear NA xsv xsl
 go_upto_region 7 with (refine wpList_store_mid rfl 50 _ _ rfl w5.heap.size 0 xs.toArray rfl rfl TH.out xsk.out xso ?_)
 clear TH xso xsk
 generalize (w5.alloc (.cells #[.int .i64 0, .int .i64 0, .int .i64 0, .int .i64 0, .int .i64 0, .slice none 0 0, .bool false, .slice none 0 0, .slice none 0 0, .slice none 0 0, .slice none 0 0, .slice none 0 0, .int .i64 0, .slice none 0 0, .slice none 0 0, .slice none 0 0, .int .i64 0, .bool false, .slice none 0 0, .slice none 0 0, .slice none 0 0, .slice none 0 0, .slice none 0 0] 50)).setCells w5.heap.size 0 xs = V6 at *
 clear tx NAV
 have rx := range_of Xxs.out
 rw [List.toList_toArray] at rx
 have IP : Hid (Calls Tryz.prog 13 #[.agg xs.toArray, .int .i64 size, .int .i64 ti] V6 fun e w' => ∃ K : RpcV, e = .returned (.tuple #[K.val, .bool bf]) ∧ RL K ∧ RpcDh n w' V6.heap.size w'.heap.size K DD ∧ Below V6.heap.size V6 w') := by
  have := IP1.out V6 MX _ LKX.out XN.out.d SM.out
  rw [xsV.out] at this
  exact this
 go_wp2_with (refine wpList_load_g (by rfl) 50 _ rfl w5.heap.size 0 rfl xs _ rx Tryz.underlying50 rfl xsh.out ?_)
 refine IP.out.mono ?_
 rintro e w7 ⟨KG, rfl, lkg, tg, b7⟩
 replace Y1 := hid9 (step_at Y1.out b7)
 replace B1 := hid9 (Below.and B1.out b7)
 replace Xws := hid9 (step_at Xws.out b7)
 replace BV := hid9 (Below.and BV.out b7)
 replace XN := hid9 (XN.out.below b7)
 replace Xxs := hid9 (step_at Xxs.out b7)
 have z7 := b7.size
 have LKG := hid9 lkg
 have GN := hid9 tg
 clear b7 lkg rx IP
 obtain ⟨gs, gsv, gsl, gso⟩ := tg.at.cells
 have gsh : Hid ((Tryz.prog.info? 57).map (·.size) = some gs.length) := by show _ = _; rw [gsl]; kernel_rfl
 have gsk : Hid ((Tryz.prog.info? 57).map (·.size) = some gs.toArray.size) := by show _ = _; rw [List.size_toArray]; exact gsh.out
 have NA := newAll (w := w7) (t := 57) (A := #[.int .i64 0, .int .i64 0, .int .i64 0, .int .i64 0, .int .i64 0, .int .i64 0, .int .i64 0, .bool false, .slice none 0 0, .bool false, .slice none 0 0, .slice none 0 0, .slice none 0 0, .slice none 0 0, .slice none 0 0]) (vs := gs) gsl.symm
 have TH : Hid (World.there (w7.alloc (.cells #[.int .i64 0, .int .i64 0, .int .i64 0, .int .i64 0, .int .i64 0, .int .i64 0, .int .i64 0, .bool false, .slice none 0 0, .bool false, .slice none 0 0, .slice none 0 0, .slice none 0 0, .slice none 0 0, .slice none 0 0] 57)) w7.heap.size 0 gs.toArray.size) := there_of (heap_alloc_new w7 _) (show 15 = gs.toArray.size by rw [List.size_toArray, gsl])
 have SZgs : w7.heap.size + 1 ≤ ((w7.alloc (.cells #[.int .i64 0, .int .i64 0, .int .i64 0, .int .i64 0, .int .i64 0, .int .i64 0, .int .i64 0, .bool false, .slice none 0 0, .bool false, .slice none 0 0, .slice none 0 0, .slice none 0 0, .slice none 0 0, .slice none 0 0] 57)).setCells w7.heap.size 0 gs).heap.size := by have := (Chg.setCells (F := fun _ => True) (g := w7.heap.size) (fun _ => trivial) gs 0 _ (Chg.refl _ (w7.alloc (.cells #[.int .i64 0, .int .i64 0, .int .i64 0, .int .i64 0, .int .i64 0, .int .i64 0, .int .i64 0, .bool false, .slice none 0 0, .bool false, .slice none 0 0, .slice none 0 0, .slice none 0 0, .slice none 0 0, .slice none 0 0] 57)))).size; simpa using this
 have Xgs := hid9 NA.2
 have gsV := hid9 gsv
 replace Y1 := hid9 (step_at Y1.out NA.1)
 replace B1 := hid9 (Below.and B1.out NA.1)
 replace Xws := hid9 (step_at Xws.out NA.1)
 replace BV := hid9 (Below.and BV.out NA.1)
 replace XN := hid9 (XN.out.below NA.1)
 replace Xxs := hid9 (step_at Xxs.out NA.1)
 replace GN := hid9 (GN.out.below NA.1)
 rw [gsv]
 have NAV := hid9 NA.1
 clear NA gsv gsl
 go_upto_region 8 with (refine wpList_store_mid rfl 57 _ _ rfl w7.heap.size 0 gs.toArray rfl rfl TH.out gsk.out gso ?_)
 clear TH gso gsk
 generalize (w7.alloc (.cells #[.int .i64 0, .int .i64 0, .int .i64 0, .int .i64 0, .int .i64 0, .int .i64 0, .int .i64 0, .bool false, .slice none 0 0, .bool false, .slice none 0 0, .slice none 0 0, .slice none 0 0, .slice none 0 0, .slice none 0 0] 57)).setCells w7.heap.size 0 gs = V8 at *
 clear tg NAV
 have rg := range_of Xgs.out
 rw [List.toList_toArray] at rg
 have rw := range_of Xws.out
 rw [List.toList_toArray] at rw
 have EQ : Hid (Calls Tryz.prog 14 #[.agg gs.toArray, .agg ws.toArray] V8 fun e w' => e = .returned (.bool true) ∧ Below V8.heap.size V8 w') := by
  have := EQ1.out V8 KG KW LKG.out LKW.out GN.out.at (TW.out.below BV.out)
  rw [gsV.out, wsV.out] at this
  exact this
 go_wp2_with (first | (refine wpList_load_g (by rfl) 57 _ rfl w7.heap.size 0 rfl gs _ rg Tryz.underlying57 rfl gsh.out ?_) | (refine wpList_load_g (by rfl) 57 _ rfl w3.heap.size 0 rfl ws _ rw Tryz.underlying57 rfl wsh.out ?_))
 refine EQ.out.mono ?_
 rintro e w9 ⟨rfl, b9⟩
 replace Y1 := hid9 (step_at Y1.out b9)
 replace B1 := hid9 (Below.and B1.out b9)
 replace Xws := hid9 (step_at Xws.out b9)
 replace BV := hid9 (Below.and BV.out b9)
 replace XN := hid9 (XN.out.below b9)
 replace Xxs := hid9 (step_at Xxs.out b9)
 replace GN := hid9 (GN.out.below b9)
 replace Xgs := hid9 (step_at Xgs.out b9)
 have zb9 := b9.size
 clear b9 rg rw EQ
 go_wp2_with fail
 have KE : Hid (∀ u, Below w9.heap.size w9 u → (fun u : World => u.rangeAt w.heap.size 0 cs ∧ u.rangeAt w5.heap.size 0 xs) u) := fun u hu => ⟨by have := range_of (step_at Y1.out hu); rw [List.toList_toArray] at this; exact this, by have := range_of (step_at Xxs.out hu); rw [List.toList_toArray] at this; exact this⟩
 have RLL : Hid (Below w9.heap.size w9 w9.drew) := (Below.refl _ _).drew
 refine wp_region_held_drew (S := (fun u : World => u.rangeAt w.heap.size 0 cs ∧ u.rangeAt w5.heap.size 0 xs)) (by kernel_rfl) (KE.out _ RLL.out) (fun hH => ?_)
 refine wpAnyH_take (i := 0) (oi := ⟨_, _, _, _, _, _⟩) (v := .agg xs.toArray) rfl (by kernel_rfl) (by kernel_rfl) (by kernel_rfl) (fun _ _ _ h => h) (yieldsIf_load_mid (by kernel_rfl) 50 _ rfl w5.heap.size 0 rfl xs _ (fun _ hu => hu.2) Tryz.underlying50 rfl xsh.out) (by assumption) ?_
 try simp only [Act.put, List.setIfInBounds_toArray, List.set_cons_zero, List.set_cons_succ]
 refine wpAnyH_take (i := 1) (oi := ⟨_, _, _, _, _, _⟩) (v := .agg cs.toArray) rfl (by kernel_rfl) (by kernel_rfl) (by kernel_rfl) (fun _ _ _ h => h) (yieldsIf_load_mid (by kernel_rfl) 36 _ rfl w.heap.size 0 rfl cs _ (fun _ hu => hu.1) Tryz.underlying36 rfl HIL.out) (by assumption) ?_
 try simp only [Act.put, List.setIfInBounds_toArray, List.set_cons_zero, List.set_cons_succ]
 refine wpAnyH_ready (rs := [2]) (by kernel_rfl) (by simp) ?_
 refine AllReadyH.cons (o := ⟨_, _, _, _, _, _⟩) rfl (fun K hK => ?_) AllReadyH.nil
 refine (if_pos (show Region.wanted _ _ = true by kernel_rfl)).mpr ?_
 refine call_by 7 [.tmp 50] #[36] rfl run_toN _ rfl (TO1.out _ (Below.and B1.out RLL.out) SM.out) ?_
 rintro e u2 ⟨M3, rfl, l3, t3, b3⟩
 have T3 := hid9 t3.at
 have L3 := hid9 l3
 replace RLL := hid9 (Below.and RLL.out b3)
 clear b3 t3 l3
 refine ⟨_, rfl, ?_⟩
 refine hK.out _ _ (KE.out _ RLL.out) (fun hH2 => ?_)
 clear hK K hH
 have hH := hH2
 clear hH2
 try simp only [Act.put, List.setIfInBounds_toArray, List.set_cons_zero, List.set_cons_succ]
 have EQ : Hid (Calls Tryz.prog 9 #[.agg xs.toArray, M3.val] u2 fun e w' => e = .returned (.bool true) ∧ Below u2.heap.size u2 w') := by
  have := EQ2.out u2 MX M3 LKX.out L3.out (XN.out.below RLL.out).at T3.out
  rw [xsV.out] at this
  exact this
 refine wpAnyH_ready (rs := [3]) (by kernel_rfl) (by simp) ?_
 refine AllReadyH.cons (o := ⟨_, _, _, _, _, _⟩) rfl (fun K hK => ?_) AllReadyH.nil
 refine (if_pos (show Region.wanted _ _ = true by kernel_rfl)).mpr ?_
 refine call_by 9 [.tmp 49, .tmp 51] #[50, 50] rfl run_eqN _ rfl EQ.out ?_
 rintro e wa ⟨rfl, b4⟩
 replace RLL := hid9 (Below.and RLL.out b4)
 clear b4
 refine ⟨_, rfl, ?_⟩
 refine hK.out _ _ (KE.out _ RLL.out) (fun hH2 => ?_)
 clear hK K hH
 have hH := hH2
 clear hH2
 try simp only [Act.put, List.setIfInBounds_toArray, List.set_cons_zero, List.set_cons_succ]
 refine wpAnyH_take (i := 4) (oi := ⟨_, _, _, _, _, _⟩) (v := ?_) rfl (by kernel_rfl) (by kernel_rfl) (by kernel_rfl) (fun _ _ _ h => h) (Or.inl ⟨by rfl, ?_⟩) (by assumption) ?_
 rotate_left
 ·((intro w hSw; (try dsimp only at hSw); go_simp); (try with_reducible rfl))
 try simp only [Act.put, List.setIfInBounds_toArray, List.set_cons_zero, List.set_cons_succ]
 refine wpAnyH_done (by kernel_rfl) ?_ _
 have ba := RLL.out
 replace Y1 := hid9 (step_at Y1.out ba)
 replace B1 := hid9 (Below.and B1.out ba)
 replace Xws := hid9 (step_at Xws.out ba)
 replace BV := hid9 (Below.and BV.out ba)
 replace XN := hid9 (XN.out.below ba)
 replace Xxs := hid9 (step_at Xxs.out ba)
 replace GN := hid9 (GN.out.below ba)
 replace Xgs := hid9 (step_at Xgs.out ba)
 have za := ba.size
 clear ba RLL KE hH EQ L3 T3
 generalize M3.val = v3 at *
 clear M3
 have rx := range_of Xxs.out
 rw [List.toList_toArray] at rx
 have MK : Hid (Calls Tryz.prog 10 #[.agg xs.toArray, .int .i64 1] wa fun e w' => e = .returned (.int .i64 (mn : Int)) ∧ Chg (fun g => V4.heap.size ≤ g ∧ g < w5.heap.size) wa w') := by
  have := MK1.out wa MX _ _ XN.out SM.out
  rw [xsV.out] at this
  exact this
 go_wp2_with (refine wpList_load_g (by rfl) 50 _ rfl w5.heap.size 0 rfl xs _ rx Tryz.underlying50 rfl xsh.out ?_)
 refine MK.out.mono ?_
 rintro e wb ⟨rfl, gb⟩
 clear XN rx MK
 replace Y1 := hid9 (row_chg Y1.out gb (fun e => by omega))
 replace B1 := hid9 (B1.out.trans (gb.below (fun g _ e => by omega) B1.out.size))
 replace Xws := hid9 (row_chg Xws.out gb (fun e => by omega))
 replace BV := hid9 (BV.out.trans (gb.below (fun g _ e => by omega) BV.out.size))
 replace Xxs := hid9 (row_chg Xxs.out gb (fun e => by omega))
 replace GN := hid9 (GN.out.chg gb (fun g _ _ e => by omega))
 replace Xgs := hid9 (row_chg Xgs.out gb (fun e => by omega))
 have zb := gb.size
 clear gb
 have rg := range_of Xgs.out
 rw [List.toList_toArray] at rg
 have rw := range_of Xws.out
 rw [List.toList_toArray] at rw
 have EQ : Hid (Calls Tryz.prog 14 #[.agg gs.toArray, .agg ws.toArray] wb fun e w' => e = .returned (.bool true) ∧ Below wb.heap.size wb w') := by
  have := EQ1.out wb KG KW LKG.out LKW.out GN.out.at (TW.out.below BV.out)
  rw [gsV.out, wsV.out] at this
  exact this
 go_wp2_with (first | (refine wpList_load_g (by rfl) 57 _ rfl w7.heap.size 0 rfl gs _ rg Tryz.underlying57 rfl gsh.out ?_) | (refine wpList_load_g (by rfl) 57 _ rfl w3.heap.size 0 rfl ws _ rw Tryz.underlying57 rfl wsh.out ?_))
 refine EQ.out.mono ?_
 rintro e wc ⟨rfl, bc⟩
 replace Y1 := hid9 (step_at Y1.out bc)
 replace B1 := hid9 (Below.and B1.out bc)
 replace Xws := hid9 (step_at Xws.out bc)
 replace BV := hid9 (Below.and BV.out bc)
 replace Xxs := hid9 (step_at Xxs.out bc)
 replace GN := hid9 (GN.out.below bc)
 replace Xgs := hid9 (step_at Xgs.out bc)
 have zbc := bc.size
 clear bc rg rw EQ
 have rg := range_of Xgs.out
 rw [List.toList_toArray] at rg
 have MK : Hid (Calls Tryz.prog 15 #[.agg gs.toArray, .int .i64 1] wc fun e w' => e = .returned (.int .i64 mg) ∧ RpcDh n w' V6.heap.size w7.heap.size KG DM ∧ Chg (fun g => V6.heap.size ≤ g ∧ g < w7.heap.size) wc w') := by
  have := MK2.out wc KG _ _ GN.out SM.out
  rw [gsV.out] at this
  exact this
 go_wp2_with (refine wpList_load_g (by rfl) 57 _ rfl w7.heap.size 0 rfl gs _ rg Tryz.underlying57 rfl gsh.out ?_)
 refine MK.out.mono ?_
 rintro e wd ⟨rfl, gm, gd⟩
 clear GN rg MK
 replace Y1 := hid9 (row_chg Y1.out gd (fun e => by omega))
 replace B1 := hid9 (B1.out.trans (gd.below (fun g _ e => by omega) B1.out.size))
 replace Xws := hid9 (row_chg Xws.out gd (fun e => by omega))
 replace BV := hid9 (BV.out.trans (gd.below (fun g _ e => by omega) BV.out.size))
 replace Xxs := hid9 (row_chg Xxs.out gd (fun e => by omega))
 replace Xgs := hid9 (row_chg Xgs.out gd (fun e => by omega))
 have zd := gd.size
 have GM := hid9 gm
 clear gd gm
 have hmm : (mg != mg) = false := by simp
 have rg := range_of Xgs.out
 rw [List.toList_toArray] at rg
 have HE : Hid (Calls Tryz.prog 16 #[.agg gs.toArray, .int .i64 1] wd fun e w' => e = .returned (.int .i64 mg) ∧ Below wd.heap.size wd w') := by
  have := HD1.out wd KG GM.out.at SM.out
  rw [gsV.out] at this
  exact this
 go_wp2_with (refine wpList_load_g (by rfl) 57 _ rfl w7.heap.size 0 rfl gs _ rg Tryz.underlying57 rfl gsh.out ?_)
 refine HE.out.mono ?_
 rintro e we ⟨rfl, be⟩
 replace Y1 := hid9 (step_at Y1.out be)
 replace B1 := hid9 (Below.and B1.out be)
 replace Xws := hid9 (step_at Xws.out be)
 replace BV := hid9 (Below.and BV.out be)
 replace Xxs := hid9 (step_at Xxs.out be)
 replace Xgs := hid9 (step_at Xgs.out be)
 replace GM := hid9 (GM.out.below be)
 have zbe := be.size
 clear be rg HE
 have ra := range_of Y1.out
 rw [List.toList_toArray] at ra
 go_wp2_with (refine wpList_load_g (by rfl) 36 _ rfl w.heap.size 0 rfl cs _ ra Tryz.underlying36 rfl HIL.out ?_)
 refine (TO1.out _ B1.out SM.out).mono ?_
 rintro e wf ⟨MH, rfl, lkh, th, bf2⟩
 have IP := hid9 (IP1.out wf MH _ lkh th SM.out)
 replace Y1 := hid9 (step_at Y1.out bf2)
 replace B1 := hid9 (Below.and B1.out bf2)
 replace Xws := hid9 (step_at Xws.out bf2)
 replace BV := hid9 (Below.and BV.out bf2)
 replace Xxs := hid9 (step_at Xxs.out bf2)
 replace Xgs := hid9 (step_at Xgs.out bf2)
 replace GM := hid9 (GM.out.below bf2)
 have zf := bf2.size
 clear bf2 lkh th ra
 generalize MH.val = vh at *
 clear MH
 go_wp2_with fail
 refine IP.out.mono ?_
 rintro e wg ⟨KH, rfl, lkk, tk, bg⟩
 replace Y1 := hid9 (step_at Y1.out bg)
 replace B1 := hid9 (Below.and B1.out bg)
 replace Xws := hid9 (step_at Xws.out bg)
 replace BV := hid9 (Below.and BV.out bg)
 replace Xxs := hid9 (step_at Xxs.out bg)
 replace Xgs := hid9 (step_at Xgs.out bg)
 replace GM := hid9 (GM.out.below bg)
 have zg := bg.size
 have LKH := hid9 lkk
 have HN := hid9 tk
 clear bg lkk IP
 obtain ⟨hs, hsv, hsl, hso⟩ := tk.at.cells
 have hsh : Hid ((Tryz.prog.info? 57).map (·.size) = some hs.length) := by show _ = _; rw [hsl]; kernel_rfl
 have hsk : Hid ((Tryz.prog.info? 57).map (·.size) = some hs.toArray.size) := by show _ = _; rw [List.size_toArray]; exact hsh.out
 have NA := newAll (w := wg) (t := 57) (A := #[.int .i64 0, .int .i64 0, .int .i64 0, .int .i64 0, .int .i64 0, .int .i64 0, .int .i64 0, .bool false, .slice none 0 0, .bool false, .slice none 0 0, .slice none 0 0, .slice none 0 0, .slice none 0 0, .slice none 0 0]) (vs := hs) hsl.symm
 have TH : Hid (World.there (wg.alloc (.cells #[.int .i64 0, .int .i64 0, .int .i64 0, .int .i64 0, .int .i64 0, .int .i64 0, .int .i64 0, .bool false, .slice none 0 0, .bool false, .slice none 0 0, .slice none 0 0, .slice none 0 0, .slice none 0 0, .slice none 0 0] 57)) wg.heap.size 0 hs.toArray.size) := there_of (heap_alloc_new wg _) (show 15 = hs.toArray.size by rw [List.size_toArray, hsl])
 have SZhs : wg.heap.size + 1 ≤ ((wg.alloc (.cells #[.int .i64 0, .int .i64 0, .int .i64 0, .int .i64 0, .int .i64 0, .int .i64 0, .int .i64 0, .bool false, .slice none 0 0, .bool false, .slice none 0 0, .slice none 0 0, .slice none 0 0, .slice none 0 0, .slice none 0 0] 57)).setCells wg.heap.size 0 hs).heap.size := by have := (Chg.setCells (F := fun _ => True) (g := wg.heap.size) (fun _ => trivial) hs 0 _ (Chg.refl _ (wg.alloc (.cells #[.int .i64 0, .int .i64 0, .int .i64 0, .int .i64 0, .int .i64 0, .int .i64 0, .int .i64 0, .bool false, .slice none 0 0, .bool false, .slice none 0 0, .slice none 0 0, .slice none 0 0, .slice none 0 0, .slice none 0 0] 57)))).size; simpa using this
 have Xhs := hid9 NA.2
 have hsV := hid9 hsv
 replace Y1 := hid9 (step_at Y1.out NA.1)
 replace B1 := hid9 (Below.and B1.out NA.1)
 replace Xws := hid9 (step_at Xws.out NA.1)
 replace BV := hid9 (Below.and BV.out NA.1)
 replace Xxs := hid9 (step_at Xxs.out NA.1)
 replace Xgs := hid9 (step_at Xgs.out NA.1)
 replace GM := hid9 (GM.out.below NA.1)
 replace HN := hid9 (HN.out.below NA.1)
 rw [hsv]
 have NAV := hid9 NA.1
 clear NA hsv hsl
 go_upto_region 25 with (refine wpList_store_mid rfl 57 _ _ rfl wg.heap.size 0 hs.toArray rfl rfl TH.out hsk.out hso ?_)
 clear TH hso hsk
 generalize (wg.alloc (.cells #[.int .i64 0, .int .i64 0, .int .i64 0, .int .i64 0, .int .i64 0, .int .i64 0, .int .i64 0, .bool false, .slice none 0 0, .bool false, .slice none 0 0, .slice none 0 0, .slice none 0 0, .slice none 0 0, .slice none 0 0] 57)).setCells wg.heap.size 0 hs = Vh at *
 clear tk NAV
 have rg := range_of Xhs.out
 rw [List.toList_toArray] at rg
 have rw := range_of Xws.out
 rw [List.toList_toArray] at rw
 have EQ : Hid (Calls Tryz.prog 14 #[.agg hs.toArray, .agg ws.toArray] Vh fun e w' => e = .returned (.bool true) ∧ Below Vh.heap.size Vh w') := by
  have := EQ1.out Vh KH KW LKH.out LKW.out HN.out.at (TW.out.below BV.out)
  rw [hsV.out, wsV.out] at this
  exact this
 go_wp2_with (first | (refine wpList_load_g (by rfl) 57 _ rfl wg.heap.size 0 rfl hs _ rg Tryz.underlying57 rfl hsh.out ?_) | (refine wpList_load_g (by rfl) 57 _ rfl w3.heap.size 0 rfl ws _ rw Tryz.underlying57 rfl wsh.out ?_))
 refine EQ.out.mono ?_
 rintro e wi ⟨rfl, bi⟩
 replace Y1 := hid9 (step_at Y1.out bi)
 replace B1 := hid9 (Below.and B1.out bi)
 replace Xws := hid9 (step_at Xws.out bi)
 replace BV := hid9 (Below.and BV.out bi)
 replace Xxs := hid9 (step_at Xxs.out bi)
 replace Xgs := hid9 (step_at Xgs.out bi)
 replace GM := hid9 (GM.out.below bi)
 replace HN := hid9 (HN.out.below bi)
 replace Xhs := hid9 (step_at Xhs.out bi)
 have zbi := bi.size
 clear bi rg rw EQ
 have rg := range_of Xgs.out
 rw [List.toList_toArray] at rg
 have HE : Hid (Calls Tryz.prog 16 #[.agg gs.toArray, .int .i64 1] wi fun e w' => e = .returned (.int .i64 mg) ∧ Below wi.heap.size wi w') := by
  have := HD1.out wi KG GM.out.at SM.out
  rw [gsV.out] at this
  exact this
 go_wp2_with (refine wpList_load_g (by rfl) 57 _ rfl w7.heap.size 0 rfl gs _ rg Tryz.underlying57 rfl gsh.out ?_)
 refine HE.out.mono ?_
 rintro e wj ⟨rfl, bj⟩
 replace Y1 := hid9 (step_at Y1.out bj)
 replace B1 := hid9 (Below.and B1.out bj)
 replace Xws := hid9 (step_at Xws.out bj)
 replace BV := hid9 (Below.and BV.out bj)
 replace Xxs := hid9 (step_at Xxs.out bj)
 replace Xgs := hid9 (step_at Xgs.out bj)
 replace GM := hid9 (GM.out.below bj)
 replace HN := hid9 (HN.out.below bj)
 replace Xhs := hid9 (step_at Xhs.out bj)
 have zbj := bj.size
 clear bj rg HE
 go_wp2
 go_ret
 exact ⟨rfl, B1.out⟩
end
section
open Go.ChangeShapes Go.WideShapes Go.ChangeAt Go.RowKit Go.Deep

theorem Tryz.own : ownKnob Tryz.prog.godebug = none := by kernel_rfl
theorem Tryz.laidOut : laidOutB Tryz.prog = true := by kernel_rfl
theorem Tryz.cells158 : Tryz.prog.cellsOf 158 = 2 := by kernel_rfl
theorem Tryz.cells3 : Tryz.prog.cellsOf 3 = 1 := by kernel_rfl
end
end Go.Proofs.YtmdajbbpigbdcaaGreat
