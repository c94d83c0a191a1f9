/-
  The contract of the model's l2Draw.
-/
import Derived.Test.YtekcnibohikmdaaOfWrites36
import Derived.Test.YtekcnibohikmdaaOfWrites39
import Derived.Deep.CutBlock
namespace Go.Proofs.Ytekcnibohikmdaa
set_option maxRecDepth 100000
set_option maxHeartbeats 8000000
section
open Go.RowKit

def DrawIs (C : Nat) (w : World) (e : Ending) (w' : World) : Prop := ∃ (y : TV) (T : Tr), e = .returned y.val ∧ sizeT 8 T ≤ 1099511627776 ∧ TreeF 8 w' (fun g => w.heap.size ≤ g) y T ∧ Cur w' C ∧ Chg (fun g => g = C) w w'

theorem l2Draw_any (C : Nat) (v : Value) (bs : List Int) (w : World) (hc : Cur w C) (hcode : Code8 w v bs) (hn : bs.length ≤ 1048576) :
  Calls Try.prog 26 #[.pointer (some ⟨C, 0, none⟩), v] w (DrawIs C w) := by
 have hCw : C < w.heap.size := hc.lt
 have HR : Hid _ := l2DrawRight_any C v bs (w.alloc (.cells #[.bool false, .slice none 0 0, .slice none 0 0, .slice none 0 0, .slice none 0 0] 54)) (hc.alloc _) (hcode.below (al1 _ _)) hn
 obtain ⟨ca, cn, hcv, _⟩ := hcode.1.len
 subst hcv
 have S0 : Hid (OneAt (w.alloc (.cells #[.bool false, .slice none 0 0, .slice none 0 0, .slice none 0 0, .slice none 0 0] 54)) w.heap.size #[.bool false, .slice none 0 0, .slice none 0 0, .slice none 0 0, .slice none 0 0]) := OneAt.start _ _
 clear hc hcode hn
 generalize bs.length = bn at *
 go_enter Try.func26, Try.ntmps26
 go_wp2_with fail
 refine Calls.mono HR.out ?_
 rintro e w1 ⟨y, T, rfl, hok, TD, C1, G1⟩
 have OK : Hid (okT T = true) := hok
 obtain ⟨ya1, ya2, ya3, ya4, yq1, yq2, yq3, yq4, hyy⟩ := TD.treeF.treeAt.shape
 subst hyy
 have hs1 : w.heap.size < w1.heap.size := by
  have := G1.size
  simp at this
  omega
 have LL : Below w1.heap.size w1 (w1.alloc (.cells #[.bool T.leaf, .slice ya1 T.pairs.length yq1, .slice ya2 T.cuts.length yq2, .slice ya3 T.kids.length yq3, .slice ya4 T.buf.length yq4] 54)) := al1 _ _
 have TY4 : Hid (TreeD 8 (w1.alloc (.cells #[.bool T.leaf, .slice ya1 T.pairs.length yq1, .slice ya2 T.cuts.length yq2, .slice ya3 T.kids.length yq3, .slice ya4 T.buf.length yq4] 54)) (fun g => w.heap.size < g ∧ g ≠ w1.heap.size) (⟨T.leaf, .slice ya1 T.pairs.length yq1, .slice ya2 T.cuts.length yq2, .slice ya3 T.kids.length yq3, .slice ya4 T.buf.length yq4⟩ : TV) T) := (TD.lt.below LL).mono (fun g hg => ⟨by have := hg.1; simp at this; omega, by have := hg.2; omega⟩)
 have XN4 : Hid (OneAt (w1.alloc (.cells #[.bool T.leaf, .slice ya1 T.pairs.length yq1, .slice ya2 T.cuts.length yq2, .slice ya3 T.kids.length yq3, .slice ya4 T.buf.length yq4] 54)) w1.heap.size #[.bool T.leaf, .slice ya1 T.pairs.length yq1, .slice ya2 T.cuts.length yq2, .slice ya3 T.kids.length yq3, .slice ya4 T.buf.length yq4]) := OneAt.start _ _
 have XS4 : Hid (OneAt (w1.alloc (.cells #[.bool T.leaf, .slice ya1 T.pairs.length yq1, .slice ya2 T.cuts.length yq2, .slice ya3 T.kids.length yq3, .slice ya4 T.buf.length yq4] 54)) w.heap.size #[.bool false, .slice none 0 0, .slice none 0 0, .slice none 0 0, .slice none 0 0]) := (S0.out.chg G1 (by omega)).step LL
 have CU4 : Hid (Cur (w1.alloc (.cells #[.bool T.leaf, .slice ya1 T.pairs.length yq1, .slice ya2 T.cuts.length yq2, .slice ya3 T.kids.length yq3, .slice ya4 T.buf.length yq4] 54)) C) := C1.below LL
 have GC4 : Hid (Chg (fun g => g = C) w (w1.alloc (.cells #[.bool T.leaf, .slice ya1 T.pairs.length yq1, .slice ya2 T.cuts.length yq2, .slice ya3 T.kids.length yq3, .slice ya4 T.buf.length yq4] 54))) := ((Chg.of_below (F := fun g => g = C) (al1 w (.cells #[.bool false, .slice none 0 0, .slice none 0 0, .slice none 0 0, .slice none 0 0] 54))).trans G1 (fun _ _ h => h)).alloc _
 have ZN4 : Hid (w1.heap.size < (w1.alloc (.cells #[.bool T.leaf, .slice ya1 T.pairs.length yq1, .slice ya2 T.cuts.length yq2, .slice ya3 T.kids.length yq3, .slice ya4 T.buf.length yq4] 54)).heap.size) := by show _ < _; simp
 clear TD C1 G1 S0 HR hok LL
 have HB : Hid _ := l1Below_any C 25 _ CU4.out (by decide)
 go_wp2_with fail
 refine Calls.mono HB.out ?_
 rintro e w5 ⟨x, rfl, hx0', hx1', _, C5, G5⟩
 generalize hNT : w1.heap.size = NT at *
 have TYw5 : Hid (TreeD 8 w5 (fun g => w.heap.size < g ∧ g ≠ NT) (⟨T.leaf, .slice ya1 T.pairs.length yq1, .slice ya2 T.cuts.length yq2, .slice ya3 T.kids.length yq3, .slice ya4 T.buf.length yq4⟩ : TV) T) := TY4.out.chg G5 (fun g hg e => by have := hg.1; omega)
 have XNw5 : Hid (OneAt w5 NT #[.bool T.leaf, .slice ya1 T.pairs.length yq1, .slice ya2 T.cuts.length yq2, .slice ya3 T.kids.length yq3, .slice ya4 T.buf.length yq4]) := XN4.out.chg G5 (by omega)
 have XSw5 : Hid (OneAt w5 w.heap.size #[.bool false, .slice none 0 0, .slice none 0 0, .slice none 0 0, .slice none 0 0]) := XS4.out.chg G5 (by omega)
 have CUw5 : Hid (Cur w5 C) := C5
 have GCw5 : Hid (Chg (fun g => g = C) w w5) := GC4.out.trans G5 (fun _ _ h => h)
 have ZNw5 : Hid (NT < w5.heap.size) := Nat.lt_of_lt_of_le ZN4.out G5.size
 clear hNT TY4 XN4 XS4 CU4 GC4 ZN4 C5 G5 HB hx0' hx1'
 have TFs : Hid (TreeF 8 w5 (fun g => w.heap.size < g ∧ g ≠ NT) (⟨T.leaf, .slice ya1 T.pairs.length yq1, .slice ya2 T.cuts.length yq2, .slice ya3 T.kids.length yq3, .slice ya4 T.buf.length yq4⟩ : TV) T) := TYw5.out.treeF
 have SZs : Hid (sizeT 8 T ≤ 1099511627776) := Nat.le_trans (size_ok8 OK.out) (by decide)
 obtain ⟨_, _, _, _, _, xs, KF, kx1, kx2, kx3, _, _⟩ := TYw5.out
 have K2 : Hid (OwnE w5 0 54 5 (.slice ya3 T.kids.length yq3) T.kids.length (flatT xs)) := by
  have := kx2
  rw [kx1] at this
  exact this
 have K3 : Hid (∀ i, i < xs.length → TreeD 7 w5 (KF i) (tvAt xs i) (T.kids.getD i noTr)) := kx3
 clear kx2 kx3
 obtain ⟨⟨c0, c1, c2, c3, c4⟩, k0, k1, k2, k3, k4⟩ := box_all5 XNw5.out
 go_upto_block 0 with fail
 go_cut [] (fun wx => ∃ (zl : Bool) (za1 za2 za3 za4 : Option Addr) (zn1 zn2 zn3 zn4 zq1 zq2 zq3 zq4 : Nat) (T6 : Tr), Hid (TreeF 8 wx (fun g => w.heap.size < g ∧ g ≠ NT) (⟨zl, .slice za1 zn1 zq1, .slice za2 zn2 zq2, .slice za3 zn3 zq3, .slice za4 zn4 zq4⟩ : TV) T6) ∧ Hid (sizeT 8 T6 ≤ 1099511627776) ∧ Hid (OneAt wx NT #[.bool zl, .slice za1 zn1 zq1, .slice za2 zn2 zq2, .slice za3 zn3 zq3, .slice za4 zn4 zq4]) ∧ Hid (OneAt wx w.heap.size #[.bool false, .slice none 0 0, .slice none 0 0, .slice none 0 0, .slice none 0 0]) ∧ Hid (Cur wx C) ∧ Hid (Chg (fun g => g = C) w wx))
 case first =>
   by_cases hx0 : x = 0
   ·subst hx0
    have FIN : Hid (∀ v, TreeF 8 (w5.setCell ⟨NT, 0, none⟩ v) (fun g => w.heap.size < g ∧ g ≠ NT) _ { T with leaf := !T.leaf } ∧ OneAt (w5.setCell ⟨NT, 0, none⟩ v) w.heap.size #[.bool false, .slice none 0 0, .slice none 0 0, .slice none 0 0, .slice none 0 0] ∧ Cur (w5.setCell ⟨NT, 0, none⟩ v) C ∧ Chg (fun g => g = C) w (w5.setCell ⟨NT, 0, none⟩ v)) := fun v => by
     have hc := chg_set1 w5 NT 0 v
     exact ⟨mar_leaf TYw5.out (hc.mono (fun g _ e h => h.2 e)), XSw5.out.chg hc (by omega), CUw5.out.chg hc (fun g hg => by omega), GCw5.out.trans hc (fun g hg e => by omega)⟩
    have XF : Hid (∀ v, OneAt (w5.setCell ⟨NT, 0, none⟩ v) NT #[v, .slice ya1 T.pairs.length yq1, .slice ya2 T.cuts.length yq2, .slice ya3 T.kids.length yq3, .slice ya4 T.buf.length yq4]) := fun v => heap_setCell_same w5 NT 0 _ 54 v XNw5.out
    clear TYw5 XSw5 CUw5 GCw5 ZNw5 TFs
    go_wp2
    go_meet
    case rel => exact ⟨!T.leaf, ya1, ya2, ya3, ya4, T.pairs.length, T.cuts.length, T.kids.length, T.buf.length, yq1, yq2, yq3, yq4, { T with leaf := !T.leaf }, (FIN.out _).1, SZs, XF.out _, (FIN.out _).2.1, (FIN.out _).2.2.1, (FIN.out _).2.2.2⟩
   by_cases hx1 : x = 1
   ·subst hx1
    obtain ⟨im, him, hwm0, hwm1, hwm2⟩ := info_parts Try.info73
    have hS : w5.drew.cell? ⟨NT, 4, none⟩ = some (.slice ya4 T.buf.length yq4) := (box_cells5 XNw5.out).2.2.2.2
    have TYwd : Hid (TreeD 8 w5.drew (fun g => w.heap.size < g ∧ g ≠ NT) (⟨T.leaf, .slice ya1 T.pairs.length yq1, .slice ya2 T.cuts.length yq2, .slice ya3 T.kids.length yq3, .slice ya4 T.buf.length yq4⟩ : TV) T) := TYw5.out.below (show Below w5.heap.size w5 w5.drew from (Below.refl _ _).drew)
    have XNwd : Hid (OneAt w5.drew NT #[.bool T.leaf, .slice ya1 T.pairs.length yq1, .slice ya2 T.cuts.length yq2, .slice ya3 T.kids.length yq3, .slice ya4 T.buf.length yq4]) := XNw5.out.step (show Below w5.heap.size w5 w5.drew from (Below.refl _ _).drew)
    have XSwd : Hid (OneAt w5.drew w.heap.size #[.bool false, .slice none 0 0, .slice none 0 0, .slice none 0 0, .slice none 0 0]) := XSw5.out.step (show Below w5.heap.size w5 w5.drew from (Below.refl _ _).drew)
    have CUwd : Hid (Cur w5.drew C) := CUw5.out.below (show Below w5.heap.size w5 w5.drew from (Below.refl _ _).drew)
    have GCwd : Hid (Chg (fun g => g = C) w w5.drew) := GCw5.out.trans (Chg.of_below (F := fun g => g = C) (show Below w5.heap.size w5 w5.drew from (Below.refl _ _).drew)) (fun _ _ h => h)
    have ZNwd : Hid (NT < w5.drew.heap.size) := Nat.lt_of_lt_of_le ZNw5.out (show Below w5.heap.size w5 w5.drew from (Below.refl _ _).drew).size
    clear TYw5 XNw5 XSw5 CUw5 GCw5 ZNw5 c0 c1 c2 c3 c4 k0 k1 k2 k3 k4
    go_wp2_with fail
    refine wp_region_last (fun u => u.cell? ⟨NT, 4, none⟩ = some (.slice ya4 T.buf.length yq4)) [_, _, _, _, _, _, _] _ rfl (by kernel_rfl) (by kernel_rfl) ?_
    generalize w5.drew = wd at *
    refine tq 0 rfl (by kernel_rfl) (fun _ _ _ h => h) (by assumption) rfl (by intro w h; go_simp <;> with_reducible rfl) ?_
    try simp only [Act.put, List.setIfInBounds_toArray, List.set_cons_zero, List.set_cons_succ]
    refine tq 1 rfl (by kernel_rfl) (fun _ _ _ h => h) (by assumption) rfl (by intro w h; go_simp <;> with_reducible rfl) ?_
    try simp only [Act.put, List.setIfInBounds_toArray, List.set_cons_zero, List.set_cons_succ]
    refine tq 2 rfl (by kernel_rfl) (fun _ _ _ h => h) (by assumption) rfl (by intro w h; go_simp <;> with_reducible rfl) ?_
    try simp only [Act.put, List.setIfInBounds_toArray, List.set_cons_zero, List.set_cons_succ]
    refine rq 3 (by kernel_rfl) rfl (fun K hK => ?_)
    refine step_func rfl 33 [Operand.tmp 22] #[45] rfl run33 [.pointer (some ⟨C, 0, none⟩)] rfl (l1DrawBad_any C wd CUwd.out) ?_
    rintro e w6 ⟨mo, mk, mv, rfl, C6, G6⟩
    refine ⟨_, rfl, ?_⟩
    have TYw6 : Hid (TreeD 8 w6 (fun g => w.heap.size < g ∧ g ≠ NT) (⟨T.leaf, .slice ya1 T.pairs.length yq1, .slice ya2 T.cuts.length yq2, .slice ya3 T.kids.length yq3, .slice ya4 T.buf.length yq4⟩ : TV) T) := TYwd.out.chg G6 (fun g hg e => by have := hg.1; omega)
    have XNw6 : Hid (OneAt w6 NT #[.bool T.leaf, .slice ya1 T.pairs.length yq1, .slice ya2 T.cuts.length yq2, .slice ya3 T.kids.length yq3, .slice ya4 T.buf.length yq4]) := XNwd.out.chg G6 (by omega)
    have XSw6 : Hid (OneAt w6 w.heap.size #[.bool false, .slice none 0 0, .slice none 0 0, .slice none 0 0, .slice none 0 0]) := XSwd.out.chg G6 (by omega)
    have GCw6 : Hid (Chg (fun g => g = C) w w6) := GCwd.out.trans G6 (fun _ _ h => h)
    have ZNw6 : Hid (NT < w6.heap.size) := Nat.lt_of_lt_of_le ZNwd.out G6.size
    have CUw6 : Hid (Cur w6 C) := C6
    clear C6 G6 TYwd XNwd XSwd CUwd GCwd ZNwd
    refine hK.out _ _ ((box_cells5 XNw6.out).2.2.2.2) (fun hH => ?_)
    clear hK K
    try simp only [Act.put, List.setIfInBounds_toArray, List.set_cons_zero, List.set_cons_succ]
    clear hH
    refine rq 4 (by kernel_rfl) rfl (fun K hK => ?_)
    go_simp
    have LL : Below w6.heap.size w6 (w6.alloc (.cells #[.int .i64 mo, .int .i64 mk, .int .i64 mv] 73)) := al1 _ _
    have RM : Hid (Row (w6.alloc (.cells #[.int .i64 mo, .int .i64 mk, .int .i64 mv] 73)) (.slice (some ⟨w6.heap.size, 0, none⟩) 1 1) 1 (flatM [(mo, mk, mv)])) := Row.laid w6 [.int .i64 mo, .int .i64 mk, .int .i64 mv] 73 _ rfl
    have TYw7 : Hid (TreeD 8 (w6.alloc (.cells #[.int .i64 mo, .int .i64 mk, .int .i64 mv] 73)) (fun g => w.heap.size < g ∧ g ≠ NT) (⟨T.leaf, .slice ya1 T.pairs.length yq1, .slice ya2 T.cuts.length yq2, .slice ya3 T.kids.length yq3, .slice ya4 T.buf.length yq4⟩ : TV) T) := TYw6.out.below LL
    have XNw7 : Hid (OneAt (w6.alloc (.cells #[.int .i64 mo, .int .i64 mk, .int .i64 mv] 73)) NT #[.bool T.leaf, .slice ya1 T.pairs.length yq1, .slice ya2 T.cuts.length yq2, .slice ya3 T.kids.length yq3, .slice ya4 T.buf.length yq4]) := XNw6.out.step LL
    have XSw7 : Hid (OneAt (w6.alloc (.cells #[.int .i64 mo, .int .i64 mk, .int .i64 mv] 73)) w.heap.size #[.bool false, .slice none 0 0, .slice none 0 0, .slice none 0 0, .slice none 0 0]) := XSw6.out.step LL
    have CUw7 : Hid (Cur (w6.alloc (.cells #[.int .i64 mo, .int .i64 mk, .int .i64 mv] 73)) C) := CUw6.out.below LL
    have GCw7 : Hid (Chg (fun g => g = C) w (w6.alloc (.cells #[.int .i64 mo, .int .i64 mk, .int .i64 mv] 73))) := GCw6.out.trans (Chg.of_below (F := fun g => g = C) LL) (fun _ _ h => h)
    have ZNw7 : Hid (NT < (w6.alloc (.cells #[.int .i64 mo, .int .i64 mk, .int .i64 mv] 73)).heap.size) := Nat.lt_of_lt_of_le ZNw6.out LL.size
    clear LL TYw6 XNw6 XSw6 CUw6 GCw6 ZNw6
    refine hK.out _ _ ((box_cells5 XNw7.out).2.2.2.2) (fun hH => ?_)
    clear hK K
    try simp only [Act.put, List.setIfInBounds_toArray, List.set_cons_zero, List.set_cons_succ]
    clear hH
    generalize (w6.alloc (.cells #[.int .i64 mo, .int .i64 mk, .int .i64 mv] 73)) = w7 at *
    refine rq 5 (by kernel_rfl) rfl (fun K hK => ?_)
    have OW : OwnE w7 0 73 3 (.slice ya4 T.buf.length yq4) T.buf.length (flatM T.buf) := TYw7.out.2.2.2.1
    have HR1 : Hid (T.buf.length + 1 ≤ maxLen ∧ (T.buf.length + 1) * 24 ≤ 140737488355328) := by
     have h8 := size_ok8 OK.out
     simp only [sizeT] at h8
     exact ⟨by unfold maxLen; omega, by omega⟩
    refine step_appE w7 rfl _ _ 52 rfl 0 73 im _ 3 24 Try.underlying52 him hwm0 hwm1 hwm2 rfl (by decide) (.slice ya4 T.buf.length yq4) T.buf.length (flatM T.buf) rfl OW (.slice (some ⟨w6.heap.size, 0, none⟩) 1 1) 1 (flatM [(mo, mk, mv)]) rfl RM.out rfl (flatM_one _) HR1.out.1 HR1.out.2 (Nat.zero_le _) ?_
    intro v8 w8 A8
    obtain ⟨a8, q8, hv8⟩ := A8.1.slice
    subst hv8
    have MAR : Hid (TreeF 8 w8 (fun g => (fun g => w.heap.size < g ∧ g ≠ NT) g ∨ w7.heap.size ≤ g) _ { T with buf := T.buf ++ [(mo, mk, mv)] }) := mar_buf TYw7.out A8
    have HW : ∀ g, wrB (.slice ya4 T.buf.length yq4) g → w.heap.size < g ∧ g ≠ NT := fun g hg => TYw7.out.2.2.2.2.1 g (.inr (.inr (.inl hg)))
    have XNw8 : Hid (OneAt w8 NT #[.bool T.leaf, .slice ya1 T.pairs.length yq1, .slice ya2 T.cuts.length yq2, .slice ya3 T.kids.length yq3, .slice ya4 T.buf.length yq4]) := XNw7.out.chg A8.2.1 (fun h => (HW _ h).2 rfl)
    have XSw8 : Hid (OneAt w8 w.heap.size #[.bool false, .slice none 0 0, .slice none 0 0, .slice none 0 0, .slice none 0 0]) := XSw7.out.chg A8.2.1 (fun h => Nat.lt_irrefl _ (HW _ h).1)
    have CUw8 : Hid (Cur w8 C) := CUw7.out.chg A8.2.1 (fun g hg => by have := (HW g hg).1; omega)
    have GCw8 : Hid (Chg (fun g => g = C) w w8) := GCw7.out.trans A8.2.1 (fun g hg h => by have := (HW g h).1; omega)
    have ZNw7' : Hid (NT < w7.heap.size) := ZNw7
    have SZ6 : Hid (sizeT 8 { T with buf := T.buf ++ [(mo, mk, mv)] } ≤ 1099511627776) := by
     have h8 : sizeT (7 + 1) T ≤ 1000000 := size_ok8 OK.out
     have h9 := size_buf 7 T ((mo, mk, mv))
     exact Nat.le_trans (Nat.le_of_eq h9) (by omega)
    clear A8 HW OW TYw7 XNw7 XSw7 CUw7 GCw7 ZNw7 RM
    refine hK.out _ _ ((box_cells5 XNw8.out).2.2.2.2) (fun hH => ?_)
    clear hK K
    try simp only [Act.put, List.setIfInBounds_toArray, List.set_cons_zero, List.set_cons_succ]
    refine wpAnyH_take (i := 6) (oi := ⟨_, _, _, _, _, _⟩) (v := ?_) rfl (by kernel_rfl) (by kernel_rfl) (by kernel_rfl) (fun _ _ _ h => h) (Or.inl ⟨by rfl, ?_⟩) ((box_cells5 XNw8.out).2.2.2.2) ?_
    rotate_left
    ·((intro w hSw; (try dsimp only at hSw); go_simp); (try with_reducible rfl))
    try simp only [Act.put, List.setIfInBounds_toArray, List.set_cons_zero, List.set_cons_succ]
    clear hH
    obtain ⟨⟨m0, m1, m2, m3, m4⟩, k0, k1, k2, k3, k4⟩ := box_all5 XNw8.out
    refine wpAnyH_done (by kernel_rfl) ?_ _
    show Oper.wp _ _ _ _ _ _
    go_simp
    have FIN : Hid (∀ v, TreeF 8 (w8.setCell ⟨NT, 4, none⟩ v) (fun g => w.heap.size < g ∧ g ≠ NT) _ { T with buf := T.buf ++ [(mo, mk, mv)] } ∧ OneAt (w8.setCell ⟨NT, 4, none⟩ v) w.heap.size #[.bool false, .slice none 0 0, .slice none 0 0, .slice none 0 0, .slice none 0 0] ∧ Cur (w8.setCell ⟨NT, 4, none⟩ v) C ∧ Chg (fun g => g = C) w (w8.setCell ⟨NT, 4, none⟩ v)) := fun v => by
     have hc := chg_set1 w8 NT 4 v
     have hz := ZNw7'.out
     exact ⟨(MAR.out.chg hc (fun g hg e => by rcases hg with h | h; exact h.2 e; omega)).mono (fun g hg => by rcases hg with h | h; exact h; exact ⟨by omega, by omega⟩), XSw8.out.chg hc (by omega), CUw8.out.chg hc (fun g hg => by omega), GCw8.out.trans hc (fun g hg e => by omega)⟩
    have XF : Hid (∀ v, OneAt (w8.setCell ⟨NT, 4, none⟩ v) NT #[.bool T.leaf, .slice ya1 T.pairs.length yq1, .slice ya2 T.cuts.length yq2, .slice ya3 T.kids.length yq3, v]) := fun v => heap_setCell_same w8 NT 4 _ 54 v XNw8.out
    clear MAR XSw8 CUw8 GCw8 m0 m1 m2 m3 m4 k0 k1 k2 k3 k4
    go_wp2_with fail
    go_meet
    case rel => exact ⟨T.leaf, ya1, ya2, ya3, a8, T.pairs.length, T.cuts.length, T.kids.length, T.buf.length + 1, yq1, yq2, yq3, q8, _, (FIN.out _).1, SZ6, XF.out _, (FIN.out _).2.1, (FIN.out _).2.2.1, (FIN.out _).2.2.2⟩
   by_cases hx2 : x = 2
   ·subst hx2
    obtain ⟨ip, hip, hwp0, hwp1, hwp2⟩ := info_parts Try.info76
    have hS : w5.drew.cell? ⟨NT, 1, none⟩ = some (.slice ya1 T.pairs.length yq1) := (box_cells5 XNw5.out).2.1
    have TYwd : Hid (TreeD 8 w5.drew (fun g => w.heap.size < g ∧ g ≠ NT) (⟨T.leaf, .slice ya1 T.pairs.length yq1, .slice ya2 T.cuts.length yq2, .slice ya3 T.kids.length yq3, .slice ya4 T.buf.length yq4⟩ : TV) T) := TYw5.out.below (show Below w5.heap.size w5 w5.drew from (Below.refl _ _).drew)
    have XNwd : Hid (OneAt w5.drew NT #[.bool T.leaf, .slice ya1 T.pairs.length yq1, .slice ya2 T.cuts.length yq2, .slice ya3 T.kids.length yq3, .slice ya4 T.buf.length yq4]) := XNw5.out.step (show Below w5.heap.size w5 w5.drew from (Below.refl _ _).drew)
    have XSwd : Hid (OneAt w5.drew w.heap.size #[.bool false, .slice none 0 0, .slice none 0 0, .slice none 0 0, .slice none 0 0]) := XSw5.out.step (show Below w5.heap.size w5 w5.drew from (Below.refl _ _).drew)
    have CUwd : Hid (Cur w5.drew C) := CUw5.out.below (show Below w5.heap.size w5 w5.drew from (Below.refl _ _).drew)
    have GCwd : Hid (Chg (fun g => g = C) w w5.drew) := GCw5.out.trans (Chg.of_below (F := fun g => g = C) (show Below w5.heap.size w5 w5.drew from (Below.refl _ _).drew)) (fun _ _ h => h)
    have ZNwd : Hid (NT < w5.drew.heap.size) := Nat.lt_of_lt_of_le ZNw5.out (show Below w5.heap.size w5 w5.drew from (Below.refl _ _).drew).size
    clear TYw5 XNw5 XSw5 CUw5 GCw5 ZNw5 c0 c1 c2 c3 c4 k0 k1 k2 k3 k4
    go_wp2_with fail
    refine wp_region_last (fun u => u.cell? ⟨NT, 1, none⟩ = some (.slice ya1 T.pairs.length yq1)) [_, _, _, _, _, _, _, _] _ rfl (by kernel_rfl) (by kernel_rfl) ?_
    generalize w5.drew = wd at *
    refine tq 0 rfl (by kernel_rfl) (fun _ _ _ h => h) (by assumption) rfl (by intro w h; go_simp <;> with_reducible rfl) ?_
    try simp only [Act.put, List.setIfInBounds_toArray, List.set_cons_zero, List.set_cons_succ]
    refine tq 1 rfl (by kernel_rfl) (fun _ _ _ h => h) (by assumption) rfl (by intro w h; go_simp <;> with_reducible rfl) ?_
    try simp only [Act.put, List.setIfInBounds_toArray, List.set_cons_zero, List.set_cons_succ]
    refine tq 2 rfl (by kernel_rfl) (fun _ _ _ h => h) (by assumption) rfl (by intro w h; go_simp <;> with_reducible rfl) ?_
    try simp only [Act.put, List.setIfInBounds_toArray, List.set_cons_zero, List.set_cons_succ]
    refine rq 3 (by kernel_rfl) rfl (fun K hK => ?_)
    refine step_func rfl 18 [Operand.tmp 31, Operand.const (.int .i64 40)] #[45, 3] rfl run18 [.pointer (some ⟨C, 0, none⟩), .int .i64 40] rfl (l1Below_any C 40 wd CUwd.out (by decide)) ?_
    rintro e w6 ⟨pk, rfl, _, _, _, C6, G6⟩
    refine ⟨_, rfl, ?_⟩
    have TYw6 : Hid (TreeD 8 w6 (fun g => w.heap.size < g ∧ g ≠ NT) (⟨T.leaf, .slice ya1 T.pairs.length yq1, .slice ya2 T.cuts.length yq2, .slice ya3 T.kids.length yq3, .slice ya4 T.buf.length yq4⟩ : TV) T) := TYwd.out.chg G6 (fun g hg e => by have := hg.1; omega)
    have XNw6 : Hid (OneAt w6 NT #[.bool T.leaf, .slice ya1 T.pairs.length yq1, .slice ya2 T.cuts.length yq2, .slice ya3 T.kids.length yq3, .slice ya4 T.buf.length yq4]) := XNwd.out.chg G6 (by omega)
    have XSw6 : Hid (OneAt w6 w.heap.size #[.bool false, .slice none 0 0, .slice none 0 0, .slice none 0 0, .slice none 0 0]) := XSwd.out.chg G6 (by omega)
    have GCw6 : Hid (Chg (fun g => g = C) w w6) := GCwd.out.trans G6 (fun _ _ h => h)
    have ZNw6 : Hid (NT < w6.heap.size) := Nat.lt_of_lt_of_le ZNwd.out G6.size
    have CUw6 : Hid (Cur w6 C) := C6
    clear C6 G6 TYwd XNwd XSwd CUwd GCwd ZNwd
    refine hK.out _ _ ((box_cells5 XNw6.out).2.1) (fun hH => ?_)
    clear hK K
    try simp only [Act.put, List.setIfInBounds_toArray, List.set_cons_zero, List.set_cons_succ]
    clear hH
    refine wpAnyH_take (i := 4) (oi := ⟨_, _, _, _, _, _⟩) (v := ?_) rfl (by kernel_rfl) (by kernel_rfl) (by kernel_rfl) (fun _ _ _ h => h) (Or.inl ⟨by rfl, ?_⟩) ((box_cells5 XNw6.out).2.1) ?_
    rotate_left
    ·((intro w hSw; (try dsimp only at hSw); go_simp); (try with_reducible rfl))
    try simp only [Act.put, List.setIfInBounds_toArray, List.set_cons_zero, List.set_cons_succ]
    refine rq 5 (by kernel_rfl) rfl (fun K hK => ?_)
    go_simp
    have LL : Below w6.heap.size w6 (w6.alloc (.cells #[.int .i64 pk, .int .i64 0] 76)) := al1 _ _
    have RM : Hid (Row (w6.alloc (.cells #[.int .i64 pk, .int .i64 0] 76)) (.slice (some ⟨w6.heap.size, 0, none⟩) 1 1) 1 (flatP [(pk, 0)])) := Row.laid w6 [.int .i64 pk, .int .i64 0] 76 _ rfl
    have TYw7 : Hid (TreeD 8 (w6.alloc (.cells #[.int .i64 pk, .int .i64 0] 76)) (fun g => w.heap.size < g ∧ g ≠ NT) (⟨T.leaf, .slice ya1 T.pairs.length yq1, .slice ya2 T.cuts.length yq2, .slice ya3 T.kids.length yq3, .slice ya4 T.buf.length yq4⟩ : TV) T) := TYw6.out.below LL
    have XNw7 : Hid (OneAt (w6.alloc (.cells #[.int .i64 pk, .int .i64 0] 76)) NT #[.bool T.leaf, .slice ya1 T.pairs.length yq1, .slice ya2 T.cuts.length yq2, .slice ya3 T.kids.length yq3, .slice ya4 T.buf.length yq4]) := XNw6.out.step LL
    have XSw7 : Hid (OneAt (w6.alloc (.cells #[.int .i64 pk, .int .i64 0] 76)) w.heap.size #[.bool false, .slice none 0 0, .slice none 0 0, .slice none 0 0, .slice none 0 0]) := XSw6.out.step LL
    have CUw7 : Hid (Cur (w6.alloc (.cells #[.int .i64 pk, .int .i64 0] 76)) C) := CUw6.out.below LL
    have GCw7 : Hid (Chg (fun g => g = C) w (w6.alloc (.cells #[.int .i64 pk, .int .i64 0] 76))) := GCw6.out.trans (Chg.of_below (F := fun g => g = C) LL) (fun _ _ h => h)
    have ZNw7 : Hid (NT < (w6.alloc (.cells #[.int .i64 pk, .int .i64 0] 76)).heap.size) := Nat.lt_of_lt_of_le ZNw6.out LL.size
    clear LL TYw6 XNw6 XSw6 CUw6 GCw6 ZNw6
    refine hK.out _ _ ((box_cells5 XNw7.out).2.1) (fun hH => ?_)
    clear hK K
    try simp only [Act.put, List.setIfInBounds_toArray, List.set_cons_zero, List.set_cons_succ]
    clear hH
    generalize (w6.alloc (.cells #[.int .i64 pk, .int .i64 0] 76)) = w7 at *
    refine rq 6 (by kernel_rfl) rfl (fun K hK => ?_)
    have OW : OwnE w7 0 76 2 (.slice ya1 T.pairs.length yq1) T.pairs.length (flatP T.pairs) := TYw7.out.2.1
    have HR1 : Hid (T.pairs.length + 1 ≤ maxLen ∧ (T.pairs.length + 1) * 16 ≤ 140737488355328) := by
     have h8 := size_ok8 OK.out
     simp only [sizeT] at h8
     exact ⟨by unfold maxLen; omega, by omega⟩
    refine step_appE w7 rfl _ _ 49 rfl 0 76 ip _ 2 16 Try.underlying49 hip hwp0 hwp1 hwp2 rfl (by decide) (.slice ya1 T.pairs.length yq1) T.pairs.length (flatP T.pairs) rfl OW (.slice (some ⟨w6.heap.size, 0, none⟩) 1 1) 1 (flatP [(pk, 0)]) rfl RM.out rfl (flatP_one _) HR1.out.1 HR1.out.2 (Nat.zero_le _) ?_
    intro v8 w8 A8
    obtain ⟨a8, q8, hv8⟩ := A8.1.slice
    subst hv8
    have MAR : Hid (TreeF 8 w8 (fun g => (fun g => w.heap.size < g ∧ g ≠ NT) g ∨ w7.heap.size ≤ g) _ { T with pairs := T.pairs ++ [(pk, 0)] }) := mar_pairs TYw7.out A8
    have HW : ∀ g, wrB (.slice ya1 T.pairs.length yq1) g → w.heap.size < g ∧ g ≠ NT := fun g hg => TYw7.out.2.2.2.2.1 g (.inl hg)
    have XNw8 : Hid (OneAt w8 NT #[.bool T.leaf, .slice ya1 T.pairs.length yq1, .slice ya2 T.cuts.length yq2, .slice ya3 T.kids.length yq3, .slice ya4 T.buf.length yq4]) := XNw7.out.chg A8.2.1 (fun h => (HW _ h).2 rfl)
    have XSw8 : Hid (OneAt w8 w.heap.size #[.bool false, .slice none 0 0, .slice none 0 0, .slice none 0 0, .slice none 0 0]) := XSw7.out.chg A8.2.1 (fun h => Nat.lt_irrefl _ (HW _ h).1)
    have CUw8 : Hid (Cur w8 C) := CUw7.out.chg A8.2.1 (fun g hg => by have := (HW g hg).1; omega)
    have GCw8 : Hid (Chg (fun g => g = C) w w8) := GCw7.out.trans A8.2.1 (fun g hg h => by have := (HW g h).1; omega)
    have ZNw7' : Hid (NT < w7.heap.size) := ZNw7
    have SZ6 : Hid (sizeT 8 { T with pairs := T.pairs ++ [(pk, 0)] } ≤ 1099511627776) := by
     have h8 : sizeT (7 + 1) T ≤ 1000000 := size_ok8 OK.out
     have h9 := size_pairs 7 T ((pk, 0))
     exact Nat.le_trans (Nat.le_of_eq h9) (by omega)
    clear A8 HW OW TYw7 XNw7 XSw7 CUw7 GCw7 ZNw7 RM
    refine hK.out _ _ ((box_cells5 XNw8.out).2.1) (fun hH => ?_)
    clear hK K
    try simp only [Act.put, List.setIfInBounds_toArray, List.set_cons_zero, List.set_cons_succ]
    refine wpAnyH_take (i := 7) (oi := ⟨_, _, _, _, _, _⟩) (v := ?_) rfl (by kernel_rfl) (by kernel_rfl) (by kernel_rfl) (fun _ _ _ h => h) (Or.inl ⟨by rfl, ?_⟩) ((box_cells5 XNw8.out).2.1) ?_
    rotate_left
    ·((intro w hSw; (try dsimp only at hSw); go_simp); (try with_reducible rfl))
    try simp only [Act.put, List.setIfInBounds_toArray, List.set_cons_zero, List.set_cons_succ]
    clear hH
    obtain ⟨⟨m0, m1, m2, m3, m4⟩, k0, k1, k2, k3, k4⟩ := box_all5 XNw8.out
    refine wpAnyH_done (by kernel_rfl) ?_ _
    show Oper.wp _ _ _ _ _ _
    go_simp
    have FIN : Hid (∀ v, TreeF 8 (w8.setCell ⟨NT, 1, none⟩ v) (fun g => w.heap.size < g ∧ g ≠ NT) _ { T with pairs := T.pairs ++ [(pk, 0)] } ∧ OneAt (w8.setCell ⟨NT, 1, none⟩ v) w.heap.size #[.bool false, .slice none 0 0, .slice none 0 0, .slice none 0 0, .slice none 0 0] ∧ Cur (w8.setCell ⟨NT, 1, none⟩ v) C ∧ Chg (fun g => g = C) w (w8.setCell ⟨NT, 1, none⟩ v)) := fun v => by
     have hc := chg_set1 w8 NT 1 v
     have hz := ZNw7'.out
     exact ⟨(MAR.out.chg hc (fun g hg e => by rcases hg with h | h; exact h.2 e; omega)).mono (fun g hg => by rcases hg with h | h; exact h; exact ⟨by omega, by omega⟩), XSw8.out.chg hc (by omega), CUw8.out.chg hc (fun g hg => by omega), GCw8.out.trans hc (fun g hg e => by omega)⟩
    have XF : Hid (∀ v, OneAt (w8.setCell ⟨NT, 1, none⟩ v) NT #[.bool T.leaf, v, .slice ya2 T.cuts.length yq2, .slice ya3 T.kids.length yq3, .slice ya4 T.buf.length yq4]) := fun v => heap_setCell_same w8 NT 1 _ 54 v XNw8.out
    clear MAR XSw8 CUw8 GCw8 m0 m1 m2 m3 m4 k0 k1 k2 k3 k4
    go_wp2_with fail
    go_meet
    case rel => exact ⟨T.leaf, a8, ya2, ya3, ya4, T.pairs.length + 1, T.cuts.length, T.kids.length, T.buf.length, q8, yq2, yq3, yq4, _, (FIN.out _).1, SZ6, XF.out _, (FIN.out _).2.1, (FIN.out _).2.2.1, (FIN.out _).2.2.2⟩
   by_cases hx3 : x = 3
   ·subst hx3
    by_cases hl : 0 < T.cuts.length
    ·have hl' : (0 : Int) < (T.cuts.length : Int) := by omega
     obtain ⟨gc, cc, hcv, hcc, hcn⟩ := (show OwnE w5 0 3 1 (.slice ya2 T.cuts.length yq2) _ _ from TYw5.out.2.2.1).pos hl
     simp at hcv
     obtain ⟨rfl, rfl⟩ := hcv
     have hS : w5.drew.cell? ⟨NT, 2, none⟩ = some (.slice (some ⟨gc, 0, none⟩) T.cuts.length yq2) := (box_cells5 XNw5.out).2.2.1
     have TYwd : Hid (TreeD 8 w5.drew (fun g => w.heap.size < g ∧ g ≠ NT) (⟨T.leaf, .slice ya1 T.pairs.length yq1, .slice (some ⟨gc, 0, none⟩) T.cuts.length yq2, .slice ya3 T.kids.length yq3, .slice ya4 T.buf.length yq4⟩ : TV) T) := TYw5.out.below (show Below w5.heap.size w5 w5.drew from (Below.refl _ _).drew)
     have XNwd : Hid (OneAt w5.drew NT #[.bool T.leaf, .slice ya1 T.pairs.length yq1, .slice (some ⟨gc, 0, none⟩) T.cuts.length yq2, .slice ya3 T.kids.length yq3, .slice ya4 T.buf.length yq4]) := XNw5.out.step (show Below w5.heap.size w5 w5.drew from (Below.refl _ _).drew)
     have XSwd : Hid (OneAt w5.drew w.heap.size #[.bool false, .slice none 0 0, .slice none 0 0, .slice none 0 0, .slice none 0 0]) := XSw5.out.step (show Below w5.heap.size w5 w5.drew from (Below.refl _ _).drew)
     have CUwd : Hid (Cur w5.drew C) := CUw5.out.below (show Below w5.heap.size w5 w5.drew from (Below.refl _ _).drew)
     have GCwd : Hid (Chg (fun g => g = C) w w5.drew) := GCw5.out.trans (Chg.of_below (F := fun g => g = C) (show Below w5.heap.size w5 w5.drew from (Below.refl _ _).drew)) (fun _ _ h => h)
     have ZNwd : Hid (NT < w5.drew.heap.size) := Nat.lt_of_lt_of_le ZNw5.out (show Below w5.heap.size w5 w5.drew from (Below.refl _ _).drew).size
     clear TYw5 XNw5 XSw5 CUw5 GCw5 ZNw5 k0 k1 k2 k3 k4
     go_wp2_with fail
     clear c0 c1 c2 c3 c4
     refine wp_region_last (fun u => u.cell? ⟨NT, 2, none⟩ = some (.slice (some ⟨gc, 0, none⟩) T.cuts.length yq2)) [_, _, _, _, _] _ rfl (by kernel_rfl) (by kernel_rfl) ?_
     generalize w5.drew = wd at *
     refine tq 0 rfl (by kernel_rfl) (fun _ _ _ h => h) (by assumption) rfl (by intro w h; go_simp <;> with_reducible rfl) ?_
     try simp only [Act.put, List.setIfInBounds_toArray, List.set_cons_zero, List.set_cons_succ]
     refine tq 1 rfl (by kernel_rfl) (fun _ _ _ h => h) (by assumption) rfl (by intro w h; go_simp <;> with_reducible rfl) ?_
     try simp only [Act.put, List.setIfInBounds_toArray, List.set_cons_zero, List.set_cons_succ]
     refine tq 2 rfl (by kernel_rfl) (fun _ _ _ h => h) (by assumption) rfl (by intro w h; go_simp <;> with_reducible rfl) ?_
     try simp only [Act.put, List.setIfInBounds_toArray, List.set_cons_zero, List.set_cons_succ]
     refine rq 3 (by kernel_rfl) rfl (fun K hK => ?_)
     refine step_func rfl 18 [Operand.tmp 45, Operand.const (.int .i64 40)] #[45, 3] rfl run18 [.pointer (some ⟨C, 0, none⟩), .int .i64 40] rfl (l1Below_any C 40 wd CUwd.out (by decide)) ?_
     rintro e w6 ⟨pk, rfl, _, _, _, C6, G6⟩
     refine ⟨_, rfl, ?_⟩
     have TYw6 : Hid (TreeD 8 w6 (fun g => w.heap.size < g ∧ g ≠ NT) (⟨T.leaf, .slice ya1 T.pairs.length yq1, .slice (some ⟨gc, 0, none⟩) T.cuts.length yq2, .slice ya3 T.kids.length yq3, .slice ya4 T.buf.length yq4⟩ : TV) T) := TYwd.out.chg G6 (fun g hg e => by have := hg.1; omega)
     have XNw6 : Hid (OneAt w6 NT #[.bool T.leaf, .slice ya1 T.pairs.length yq1, .slice (some ⟨gc, 0, none⟩) T.cuts.length yq2, .slice ya3 T.kids.length yq3, .slice ya4 T.buf.length yq4]) := XNwd.out.chg G6 (by omega)
     have XSw6 : Hid (OneAt w6 w.heap.size #[.bool false, .slice none 0 0, .slice none 0 0, .slice none 0 0, .slice none 0 0]) := XSwd.out.chg G6 (by omega)
     have GCw6 : Hid (Chg (fun g => g = C) w w6) := GCwd.out.trans G6 (fun _ _ h => h)
     have ZNw6 : Hid (NT < w6.heap.size) := Nat.lt_of_lt_of_le ZNwd.out G6.size
     have CUw6 : Hid (Cur w6 C) := C6
     clear C6 G6 TYwd XNwd XSwd CUwd GCwd ZNwd
     have OW : OwnE w6 0 3 1 (.slice (some ⟨gc, 0, none⟩) T.cuts.length yq2) T.cuts.length (flatI T.cuts) := TYw6.out.2.2.1
     obtain ⟨y0, y1⟩ := OW.cell 0 _ (flatI_at T.cuts 0 hl)
     have HW : w.heap.size < gc ∧ gc ≠ NT := TYw6.out.2.2.2.2.1 gc (.inr (.inl ⟨_, _, rfl, hcc⟩))
     have FIN : Hid (∀ v : Int, TreeF 8 (w6.setCell ⟨gc, 0, none⟩ (.int .i64 v)) (fun g => w.heap.size < g ∧ g ≠ NT) _ { T with cuts := T.cuts.set 0 v } ∧ OneAt (w6.setCell ⟨gc, 0, none⟩ (.int .i64 v)) NT #[.bool T.leaf, .slice ya1 T.pairs.length yq1, .slice (some ⟨gc, 0, none⟩) T.cuts.length yq2, .slice ya3 T.kids.length yq3, .slice ya4 T.buf.length yq4] ∧ OneAt (w6.setCell ⟨gc, 0, none⟩ (.int .i64 v)) w.heap.size #[.bool false, .slice none 0 0, .slice none 0 0, .slice none 0 0, .slice none 0 0] ∧ Cur (w6.setCell ⟨gc, 0, none⟩ (.int .i64 v)) C ∧ Chg (fun g => g = C) w (w6.setCell ⟨gc, 0, none⟩ (.int .i64 v))) := fun v => by
      have hc := chg_set1 w6 gc 0 (.int .i64 v)
      exact ⟨mar_cut v TYw6.out hcc, XNw6.out.chg hc (fun e => HW.2 e.symm), XSw6.out.chg hc (by omega), CUw6.out.chg hc (fun g hg => by omega), GCw6.out.trans hc (fun g hg e => by omega)⟩
     have SZ6 : Hid (∀ v : Int, sizeT 8 { T with cuts := T.cuts.set 0 v } ≤ 1099511627776) := fun v => by rw [size_cut]; exact SZs.out
     refine hK.out _ _ ((box_cells5 XNw6.out).2.2.1) (fun hH => ?_)
     clear hK K
     try simp only [Act.put, List.setIfInBounds_toArray, List.set_cons_zero, List.set_cons_succ]
     refine tq 4 rfl (by kernel_rfl) (fun _ _ _ h => h) (by assumption) rfl (by intro w h; go_simp <;> with_reducible rfl) ?_
     try simp only [Act.put, List.setIfInBounds_toArray, List.set_cons_zero, List.set_cons_succ]
     clear hH OW HW TYw6 XSw6 CUw6 GCw6 ZNw6
     refine wpAnyH_done (by kernel_rfl) ?_ _
     show Oper.wp _ _ _ _ _ _
     go_simp
     go_wp2_with fail
     go_meet
     case rel => exact ⟨T.leaf, ya1, some ⟨gc, 0, none⟩, ya3, ya4, T.pairs.length, T.cuts.length, T.kids.length, T.buf.length, yq1, yq2, yq3, yq4, _, (FIN.out _).1, SZ6.out _, (FIN.out _).2.1, (FIN.out _).2.2.1, (FIN.out _).2.2.2.1, (FIN.out _).2.2.2.2⟩
    ·have hl' : ¬ (0 : Int) < (T.cuts.length : Int) := by omega
     go_wp2
     go_meet
     case rel => exact ⟨T.leaf, ya1, ya2, ya3, ya4, T.pairs.length, T.cuts.length, T.kids.length, T.buf.length, yq1, yq2, yq3, yq4, T, TFs, SZs, XNw5, XSw5, CUw5, GCw5⟩
   by_cases hx4 : x = 4
   ·subst hx4
    by_cases hl : 0 < T.kids.length
    ·have hl' : (0 : Int) < (T.kids.length : Int) := by omega
     obtain ⟨gk, kc, hkv, hkc, hkn⟩ := (show OwnE w5 0 54 5 (.slice ya3 T.kids.length yq3) T.kids.length (flatT xs) from K2.out).pos (by omega)
     simp at hkv
     obtain ⟨rfl, rfl⟩ := hkv
     have hS : w5.drew.cell? ⟨NT, 3, none⟩ = some (.slice (some ⟨gk, 0, none⟩) T.kids.length yq3) := (box_cells5 XNw5.out).2.2.2.1
     have TYwd : Hid (TreeD 8 w5.drew (fun g => w.heap.size < g ∧ g ≠ NT) (⟨T.leaf, .slice ya1 T.pairs.length yq1, .slice ya2 T.cuts.length yq2, .slice (some ⟨gk, 0, none⟩) T.kids.length yq3, .slice ya4 T.buf.length yq4⟩ : TV) T) := TYw5.out.below (show Below w5.heap.size w5 w5.drew from (Below.refl _ _).drew)
     have XNwd : Hid (OneAt w5.drew NT #[.bool T.leaf, .slice ya1 T.pairs.length yq1, .slice ya2 T.cuts.length yq2, .slice (some ⟨gk, 0, none⟩) T.kids.length yq3, .slice ya4 T.buf.length yq4]) := XNw5.out.step (show Below w5.heap.size w5 w5.drew from (Below.refl _ _).drew)
     have XSwd : Hid (OneAt w5.drew w.heap.size #[.bool false, .slice none 0 0, .slice none 0 0, .slice none 0 0, .slice none 0 0]) := XSw5.out.step (show Below w5.heap.size w5 w5.drew from (Below.refl _ _).drew)
     have CUwd : Hid (Cur w5.drew C) := CUw5.out.below (show Below w5.heap.size w5 w5.drew from (Below.refl _ _).drew)
     have GCwd : Hid (Chg (fun g => g = C) w w5.drew) := GCw5.out.trans (Chg.of_below (F := fun g => g = C) (show Below w5.heap.size w5 w5.drew from (Below.refl _ _).drew)) (fun _ _ h => h)
     have ZNwd : Hid (NT < w5.drew.heap.size) := Nat.lt_of_lt_of_le ZNw5.out (show Below w5.heap.size w5 w5.drew from (Below.refl _ _).drew).size
     have K2d : Hid (OwnE w5.drew 0 54 5 (.slice (some ⟨gk, 0, none⟩) T.kids.length yq3) T.kids.length (flatT xs)) := K2.out.below (Below.refl _ _).drew
     clear TYw5 XNw5 XSw5 CUw5 GCw5 ZNw5 k0 k1 k2 k3 k4 K2
     go_wp2_with fail
     clear c0 c1 c2 c3 c4
     refine wp_region_last (fun u => u.cell? ⟨NT, 3, none⟩ = some (.slice (some ⟨gk, 0, none⟩) T.kids.length yq3)) [_, _, _, _] _ rfl (by kernel_rfl) (by kernel_rfl) ?_
     generalize w5.drew = wd at *
     refine tq 0 rfl (by kernel_rfl) (fun _ _ _ h => h) (by assumption) rfl (by intro w h; go_simp <;> with_reducible rfl) ?_
     try simp only [Act.put, List.setIfInBounds_toArray, List.set_cons_zero, List.set_cons_succ]
     refine tq 1 rfl (by kernel_rfl) (fun _ _ _ h => h) (by assumption) rfl (by intro w h; go_simp <;> with_reducible rfl) ?_
     try simp only [Act.put, List.setIfInBounds_toArray, List.set_cons_zero, List.set_cons_succ]
     refine rq 2 (by kernel_rfl) rfl (fun K hK => ?_)
     refine step_func rfl 34 [] #[] rfl run34 [] rfl (specTreeNew_any wd) ?_
     rintro e w6 ⟨rfl, LL⟩
     refine ⟨_, rfl, ?_⟩
     have TYw6 : Hid (TreeD 8 w6 (fun g => w.heap.size < g ∧ g ≠ NT) (⟨T.leaf, .slice ya1 T.pairs.length yq1, .slice ya2 T.cuts.length yq2, .slice (some ⟨gk, 0, none⟩) T.kids.length yq3, .slice ya4 T.buf.length yq4⟩ : TV) T) := TYwd.out.below LL
     have XNw6 : Hid (OneAt w6 NT #[.bool T.leaf, .slice ya1 T.pairs.length yq1, .slice ya2 T.cuts.length yq2, .slice (some ⟨gk, 0, none⟩) T.kids.length yq3, .slice ya4 T.buf.length yq4]) := XNwd.out.step LL
     have XSw6 : Hid (OneAt w6 w.heap.size #[.bool false, .slice none 0 0, .slice none 0 0, .slice none 0 0, .slice none 0 0]) := XSwd.out.step LL
     have CUw6 : Hid (Cur w6 C) := CUwd.out.below LL
     have GCw6 : Hid (Chg (fun g => g = C) w w6) := GCwd.out.trans (Chg.of_below (F := fun g => g = C) LL) (fun _ _ h => h)
     have ZNw6 : Hid (NT < w6.heap.size) := Nat.lt_of_lt_of_le ZNwd.out LL.size
     have K26 : Hid (OwnE w6 0 54 5 (.slice (some ⟨gk, 0, none⟩) T.kids.length yq3) T.kids.length (flatT xs)) := K2d.out.below LL
     clear LL TYwd XNwd XSwd CUwd GCwd ZNwd K2d
     obtain ⟨e0, e1, e2, e3, e4⟩ := flatT_at xs 0 (by omega)
     simp only [Nat.zero_mul, Nat.zero_add] at e0 e1 e2 e3 e4
     obtain ⟨y0, x0⟩ := K26.out.cell 0 _ e0
     obtain ⟨y1, x1⟩ := K26.out.cell 1 _ e1
     obtain ⟨y2, x2⟩ := K26.out.cell 2 _ e2
     obtain ⟨y3, x3⟩ := K26.out.cell 3 _ e3
     obtain ⟨y4, x4⟩ := K26.out.cell 4 _ e4
     have HW : w.heap.size < gk ∧ gk ≠ NT := TYw6.out.2.2.2.2.1 gk (.inr (.inr (.inr ⟨_, _, rfl, hkc⟩)))
     have FIN : Hid (TreeF 8 (set5 w6 gk (.bool true) (.slice none 0 0) (.slice none 0 0) (.slice none 0 0) (.slice none 0 0)) (fun g => w.heap.size < g ∧ g ≠ NT) (⟨T.leaf, .slice ya1 T.pairs.length yq1, .slice ya2 T.cuts.length yq2, .slice (some ⟨gk, 0, none⟩) T.kids.length yq3, .slice ya4 T.buf.length yq4⟩ : TV) { T with kids := T.kids.set 0 newT } ∧ OneAt (set5 w6 gk (.bool true) (.slice none 0 0) (.slice none 0 0) (.slice none 0 0) (.slice none 0 0)) NT #[.bool T.leaf, .slice ya1 T.pairs.length yq1, .slice ya2 T.cuts.length yq2, .slice (some ⟨gk, 0, none⟩) T.kids.length yq3, .slice ya4 T.buf.length yq4] ∧ OneAt (set5 w6 gk (.bool true) (.slice none 0 0) (.slice none 0 0) (.slice none 0 0) (.slice none 0 0)) w.heap.size #[.bool false, .slice none 0 0, .slice none 0 0, .slice none 0 0, .slice none 0 0] ∧ Cur (set5 w6 gk (.bool true) (.slice none 0 0) (.slice none 0 0) (.slice none 0 0) (.slice none 0 0)) C ∧ Chg (fun g => g = C) w (set5 w6 gk (.bool true) (.slice none 0 0) (.slice none 0 0) (.slice none 0 0) (.slice none 0 0))) := by
      have hc := chg_set5 w6 gk (.bool true) (.slice none 0 0) (.slice none 0 0) (.slice none 0 0) (.slice none 0 0)
      have hm := mar_kid (y := ⟨true, .slice none 0 0, .slice none 0 0, .slice none 0 0, .slice none 0 0⟩) (U := newT) (F' := fun _ => False) TYw6.out hkc hl (TreeF.mk rfl (RowF.nil _ _) (RowF.nil _ _) (RowF.nil _ _) (TreesF.nil _ _ _)) (fun h => h)
      exact ⟨hm.mono (fun g hg => hg.elim id (fun h => h.elim)), XNw6.out.chg hc (fun e => HW.2 e.symm), XSw6.out.chg hc (by omega), CUw6.out.chg hc (fun g hg => by omega), GCw6.out.trans hc (fun g hg e => by omega)⟩
     have SZ6 : Hid (sizeT 8 { T with kids := T.kids.set 0 newT } ≤ 1099511627776) := by
      have h8 : sizeT (7 + 1) T ≤ 1000000 := size_ok8 OK.out
      have h9 := size_kid0 7 T newT
      have h10 : sizeT 7 newT = 0 := rfl
      exact Nat.le_trans h9 (by omega)
     refine hK.out _ _ ((box_cells5 XNw6.out).2.2.2.1) (fun hH => ?_)
     clear hK K
     try simp only [Act.put, List.setIfInBounds_toArray, List.set_cons_zero, List.set_cons_succ]
     refine tq 3 rfl (by kernel_rfl) (fun _ _ _ h => h) (by assumption) rfl (by intro w h; go_simp <;> with_reducible rfl) ?_
     try simp only [Act.put, List.setIfInBounds_toArray, List.set_cons_zero, List.set_cons_succ]
     clear hH HW TYw6 XSw6 CUw6 GCw6 ZNw6 K26 e0 e1 e2 e3 e4
     refine wpAnyH_done (by kernel_rfl) ?_ _
     show Oper.wp _ _ _ _ _ _
     go_simp
     go_wp2_with fail
     go_meet
     case rel => exact ⟨T.leaf, ya1, ya2, some ⟨gk, 0, none⟩, ya4, T.pairs.length, T.cuts.length, T.kids.length, T.buf.length, yq1, yq2, yq3, yq4, _, FIN.out.1, SZ6, FIN.out.2.1, FIN.out.2.2.1, FIN.out.2.2.2.1, FIN.out.2.2.2.2⟩
    ·have hl' : ¬ (0 : Int) < (T.kids.length : Int) := by omega
     go_wp2
     go_meet
     case rel => exact ⟨T.leaf, ya1, ya2, ya3, ya4, T.pairs.length, T.cuts.length, T.kids.length, T.buf.length, yq1, yq2, yq3, yq4, T, TFs, SZs, XNw5, XSw5, CUw5, GCw5⟩
   by_cases hx5 : x = 5
   ·subst hx5
    by_cases hl : 1 < T.kids.length
    ·have hl' : (1 : Int) < (T.kids.length : Int) := by omega
     obtain ⟨gk, kc, hkv, hkc, hkn⟩ := (show OwnE w5 0 54 5 (.slice ya3 T.kids.length yq3) T.kids.length (flatT xs) from K2.out).pos (by omega)
     simp at hkv
     obtain ⟨rfl, rfl⟩ := hkv
     have hl0 : (0 : Int) < (T.kids.length : Int) := by omega
     obtain ⟨e0, e1, e2, e3, e4⟩ := flatT_at xs 1 (by omega)
     have KT := K3.out 1 (by omega)
     obtain ⟨ra1, ra2, ra3, ra4, rq1, rq2, rq3, rq4, hyr⟩ := KT.treeF.treeAt.shape
     rw [hyr] at e0 e1 e2 e3 e4 KT
     simp only [Nat.one_mul] at e0 e1 e2 e3 e4
     obtain ⟨y0, _⟩ := K2.out.cell 5 _ e0
     obtain ⟨y1, _⟩ := K2.out.cell 6 _ e1
     obtain ⟨y2, _⟩ := K2.out.cell 7 _ e2
     obtain ⟨y3, _⟩ := K2.out.cell 8 _ e3
     obtain ⟨y4, _⟩ := K2.out.cell 9 _ e4
     generalize hU : T.kids.getD 1 noTr = U at *
     have HU : Hid (sizeT 7 U + T.kids.length ≤ sizeT (7 + 1) T) := by
      have := sizeT_kid (n := 7) (T := T) (i := 1) hl
      unfold kidT at this
      rw [hU] at this
      exact this
     have HC : Hid _ := copy_all 7 ⟨U.leaf, .slice ra1 U.pairs.length rq1, .slice ra2 U.cuts.length rq2, .slice ra3 U.kids.length rq3, .slice ra4 U.buf.length rq4⟩ U w5 KT.treeF.treeAt (by have := HU.out; have h8 : sizeT (7 + 1) T ≤ 1000000 := size_ok8 OK.out; omega)
     clear KT e0 e1 e2 e3 e4 hyr
     go_wp2_with fail
     refine Calls.mono HC.out ?_
     rintro e w6 ⟨z, rfl, TZ, LL⟩
     obtain ⟨za1, za2, za3, za4, zq1, zq2, zq3, zq4, hyz⟩ := TZ.treeF.treeAt.shape
     subst hyz
     clear y0 y1 y2 y3 y4 HC c0 c1 c2 c3 c4 k0 k1 k2 k3 k4
     go_upto_region 18 with fail
     have LL7 : Below w5.heap.size w5 (w6.alloc (.cells #[.bool U.leaf, .slice za1 U.pairs.length zq1, .slice za2 U.cuts.length zq2, .slice za3 U.kids.length zq3, .slice za4 U.buf.length zq4] 54)) := Below.and LL (al1 _ _)
     have TYw7 : Hid (TreeD 8 (w6.alloc (.cells #[.bool U.leaf, .slice za1 U.pairs.length zq1, .slice za2 U.cuts.length zq2, .slice za3 U.kids.length zq3, .slice za4 U.buf.length zq4] 54)) (fun g => w.heap.size < g ∧ g ≠ NT) (⟨T.leaf, .slice ya1 T.pairs.length yq1, .slice ya2 T.cuts.length yq2, .slice (some ⟨gk, 0, none⟩) T.kids.length yq3, .slice ya4 T.buf.length yq4⟩ : TV) T) := TYw5.out.below LL7
     have XNw7 : Hid (OneAt (w6.alloc (.cells #[.bool U.leaf, .slice za1 U.pairs.length zq1, .slice za2 U.cuts.length zq2, .slice za3 U.kids.length zq3, .slice za4 U.buf.length zq4] 54)) NT #[.bool T.leaf, .slice ya1 T.pairs.length yq1, .slice ya2 T.cuts.length yq2, .slice (some ⟨gk, 0, none⟩) T.kids.length yq3, .slice ya4 T.buf.length yq4]) := XNw5.out.step LL7
     have XSw7 : Hid (OneAt (w6.alloc (.cells #[.bool U.leaf, .slice za1 U.pairs.length zq1, .slice za2 U.cuts.length zq2, .slice za3 U.kids.length zq3, .slice za4 U.buf.length zq4] 54)) w.heap.size #[.bool false, .slice none 0 0, .slice none 0 0, .slice none 0 0, .slice none 0 0]) := XSw5.out.step LL7
     have CUw7 : Hid (Cur (w6.alloc (.cells #[.bool U.leaf, .slice za1 U.pairs.length zq1, .slice za2 U.cuts.length zq2, .slice za3 U.kids.length zq3, .slice za4 U.buf.length zq4] 54)) C) := CUw5.out.below LL7
     have GCw7 : Hid (Chg (fun g => g = C) w (w6.alloc (.cells #[.bool U.leaf, .slice za1 U.pairs.length zq1, .slice za2 U.cuts.length zq2, .slice za3 U.kids.length zq3, .slice za4 U.buf.length zq4] 54))) := GCw5.out.trans (Chg.of_below (F := fun g => g = C) LL7) (fun _ _ h => h)
     have ZNw7 : Hid (NT < (w6.alloc (.cells #[.bool U.leaf, .slice za1 U.pairs.length zq1, .slice za2 U.cuts.length zq2, .slice za3 U.kids.length zq3, .slice za4 U.buf.length zq4] 54)).heap.size) := Nat.lt_of_lt_of_le ZNw5.out LL7.size
     have K27 : Hid (OwnE (w6.alloc (.cells #[.bool U.leaf, .slice za1 U.pairs.length zq1, .slice za2 U.cuts.length zq2, .slice za3 U.kids.length zq3, .slice za4 U.buf.length zq4] 54)) 0 54 5 (.slice (some ⟨gk, 0, none⟩) T.kids.length yq3) T.kids.length (flatT xs)) := K2.out.below LL7
     have X67 : Hid (OneAt (w6.alloc (.cells #[.bool U.leaf, .slice za1 U.pairs.length zq1, .slice za2 U.cuts.length zq2, .slice za3 U.kids.length zq3, .slice za4 U.buf.length zq4] 54)) w6.heap.size #[.bool U.leaf, .slice za1 U.pairs.length zq1, .slice za2 U.cuts.length zq2, .slice za3 U.kids.length zq3, .slice za4 U.buf.length zq4]) := OneAt.start _ _
     have TZ7 : Hid (TreeF 7 (w6.alloc (.cells #[.bool U.leaf, .slice za1 U.pairs.length zq1, .slice za2 U.cuts.length zq2, .slice za3 U.kids.length zq3, .slice za4 U.buf.length zq4] 54)) (fun g => w5.heap.size ≤ g) (⟨U.leaf, .slice za1 U.pairs.length zq1, .slice za2 U.cuts.length zq2, .slice za3 U.kids.length zq3, .slice za4 U.buf.length zq4⟩ : TV) U) := TZ.treeF.below (al1 _ _)
     have Z5 : Hid (NT < w5.heap.size) := ZNw5
     have HW : w.heap.size < gk ∧ gk ≠ NT := TYw7.out.2.2.2.2.1 gk (.inr (.inr (.inr ⟨_, _, rfl, hkc⟩)))
     have HG5 : gk < w5.heap.size := (K2.out.lt gk ⟨_, _, rfl, hkc⟩).2
     clear TZ LL LL7 TYw5 XNw5 XSw5 CUw5 GCw5 ZNw5 K2 K3
     generalize (w6.alloc (.cells #[.bool U.leaf, .slice za1 U.pairs.length zq1, .slice za2 U.cuts.length zq2, .slice za3 U.kids.length zq3, .slice za4 U.buf.length zq4] 54)) = w7 at *
     obtain ⟨e0, e1, e2, e3, e4⟩ := flatT_at xs 0 (by omega)
     simp only [Nat.zero_mul, Nat.zero_add] at e0 e1 e2 e3 e4
     obtain ⟨y0, x0⟩ := K27.out.cell 0 _ e0
     obtain ⟨y1, x1⟩ := K27.out.cell 1 _ e1
     obtain ⟨y2, x2⟩ := K27.out.cell 2 _ e2
     obtain ⟨y3, x3⟩ := K27.out.cell 3 _ e3
     obtain ⟨y4, x4⟩ := K27.out.cell 4 _ e4
     obtain ⟨c0, c1, c2, c3, c4⟩ := box_cells5 X67.out
     have n3 := (box_cells5 XNw7.out).2.2.2.1
     have FIN : Hid (TreeF 8 (set5 w7 gk (.bool U.leaf) (.slice za1 U.pairs.length zq1) (.slice za2 U.cuts.length zq2) (.slice za3 U.kids.length zq3) (.slice za4 U.buf.length zq4)) (fun g => w.heap.size < g ∧ g ≠ NT) (⟨T.leaf, .slice ya1 T.pairs.length yq1, .slice ya2 T.cuts.length yq2, .slice (some ⟨gk, 0, none⟩) T.kids.length yq3, .slice ya4 T.buf.length yq4⟩ : TV) { T with kids := T.kids.set 0 U } ∧ OneAt (set5 w7 gk (.bool U.leaf) (.slice za1 U.pairs.length zq1) (.slice za2 U.cuts.length zq2) (.slice za3 U.kids.length zq3) (.slice za4 U.buf.length zq4)) NT #[.bool T.leaf, .slice ya1 T.pairs.length yq1, .slice ya2 T.cuts.length yq2, .slice (some ⟨gk, 0, none⟩) T.kids.length yq3, .slice ya4 T.buf.length yq4] ∧ OneAt (set5 w7 gk (.bool U.leaf) (.slice za1 U.pairs.length zq1) (.slice za2 U.cuts.length zq2) (.slice za3 U.kids.length zq3) (.slice za4 U.buf.length zq4)) w.heap.size #[.bool false, .slice none 0 0, .slice none 0 0, .slice none 0 0, .slice none 0 0] ∧ Cur (set5 w7 gk (.bool U.leaf) (.slice za1 U.pairs.length zq1) (.slice za2 U.cuts.length zq2) (.slice za3 U.kids.length zq3) (.slice za4 U.buf.length zq4)) C ∧ Chg (fun g => g = C) w (set5 w7 gk (.bool U.leaf) (.slice za1 U.pairs.length zq1) (.slice za2 U.cuts.length zq2) (.slice za3 U.kids.length zq3) (.slice za4 U.buf.length zq4))) := by
      have hc := chg_set5 w7 gk (.bool U.leaf) (.slice za1 U.pairs.length zq1) (.slice za2 U.cuts.length zq2) (.slice za3 U.kids.length zq3) (.slice za4 U.buf.length zq4)
      have hm := mar_kid (y := ⟨U.leaf, .slice za1 U.pairs.length zq1, .slice za2 U.cuts.length zq2, .slice za3 U.kids.length zq3, .slice za4 U.buf.length zq4⟩) (U := U) (F' := fun g => w5.heap.size ≤ g) TYw7.out hkc (by omega) TZ7.out (by omega)
      have hz := Z5.out
      exact ⟨hm.mono (fun g hg => hg.elim id (fun h => ⟨by omega, by omega⟩)), XNw7.out.chg hc (fun e => HW.2 e.symm), XSw7.out.chg hc (by omega), CUw7.out.chg hc (fun g hg => by omega), GCw7.out.trans hc (fun g hg e => by omega)⟩
     have SZ6 : Hid (sizeT 8 { T with kids := T.kids.set 0 U } ≤ 1099511627776) := by
      have h8 : sizeT (7 + 1) T ≤ 1000000 := size_ok8 OK.out
      have h9 := size_kid0 7 T U
      have h10 := HU.out
      exact Nat.le_trans h9 (by omega)
     clear HW TYw7 XSw7 CUw7 GCw7 ZNw7 K27 e0 e1 e2 e3 e4 TZ7 HU HG5
     go_wp2
     go_meet
     case rel => exact ⟨T.leaf, ya1, ya2, some ⟨gk, 0, none⟩, ya4, T.pairs.length, T.cuts.length, T.kids.length, T.buf.length, yq1, yq2, yq3, yq4, _, FIN.out.1, SZ6, FIN.out.2.1, FIN.out.2.2.1, FIN.out.2.2.2.1, FIN.out.2.2.2.2⟩
    ·have hl' : ¬ (1 : Int) < (T.kids.length : Int) := by omega
     go_wp2
     go_meet
     case rel => exact ⟨T.leaf, ya1, ya2, ya3, ya4, T.pairs.length, T.cuts.length, T.kids.length, T.buf.length, yq1, yq2, yq3, yq4, T, TFs, SZs, XNw5, XSw5, CUw5, GCw5⟩
   clear TYw5 ZNw5
   go_wp2
   go_meet
   case rel => exact ⟨T.leaf, ya1, ya2, ya3, ya4, T.pairs.length, T.cuts.length, T.kids.length, T.buf.length, yq1, yq2, yq3, yq4, T, TFs, SZs, XNw5, XSw5, CUw5, GCw5⟩
 case rest =>
  obtain ⟨zl, za1, za2, za3, za4, zn1, zn2, zn3, zn4, zq1, zq2, zq3, zq4, T6, TF6, SZ6, XN6, XS6, CU6, GC6⟩ := hcut
  clear TYw5 XNw5 XSw5 CUw5 GCw5 ZNw5 TFs SZs K2 K3 c0 c1 c2 c3 c4 k0 k1 k2 k3 k4
  obtain ⟨c0, c1, c2, c3, c4⟩ := box_cells5 XN6.out
  obtain ⟨⟨m0, m1, m2, m3, m4⟩, k0, k1, k2, k3, k4⟩ := box_all5 XS6.out
  have FIN : Hid (∀ v0 v1 v2 v3 v4, TreeF 8 (set5 wc w.heap.size v0 v1 v2 v3 v4) (fun g => w.heap.size ≤ g) (⟨zl, .slice za1 zn1 zq1, .slice za2 zn2 zq2, .slice za3 zn3 zq3, .slice za4 zn4 zq4⟩ : TV) T6 ∧ Cur (set5 wc w.heap.size v0 v1 v2 v3 v4) C ∧ Chg (fun g => g = C) w (set5 wc w.heap.size v0 v1 v2 v3 v4)) := fun v0 v1 v2 v3 v4 => by
   have hc := chg_set5 wc w.heap.size v0 v1 v2 v3 v4
   exact ⟨(TF6.out.chg hc (fun g hg e => by have := hg.1; omega)).mono (fun g hg => by have := hg.1; omega), CU6.out.chg hc (fun g hg => by omega), GC6.out.trans hc (fun g hg e => by omega)⟩
  clear TF6 XN6 XS6 CU6 GC6
  go_wp2
  refine bodyPost_ret (v := .agg #[.bool zl, .slice za1 zn1 zq1, .slice za2 zn2 zq2, .slice za3 zn3 zq3, .slice za4 zn4 zq4]) (by simp [results, Try.results26, go_sem, m0, m1, m2, m3, m4]) rfl ⟨⟨zl, .slice za1 zn1 zq1, .slice za2 zn2 zq2, .slice za3 zn3 zq3, .slice za4 zn4 zq4⟩, T6, rfl, SZ6.out, (FIN.out _ _ _ _ _).1, (FIN.out _ _ _ _ _).2.1, (FIN.out _ _ _ _ _).2.2⟩
end
end Go.Proofs.Ytekcnibohikmdaa
