/-
  The contract of the model's l5DrawNode.
  The contract of the model's DrawPutNode.
-/
import Derived.Test.YtbmcojelgbkafaaDoorOfNodes29
import Derived.Test.YtbmcojelgbkafaaDoorOfNodes32
import Derived.Deep.CutBlock
import Derived.Deep.LoopGhost
import Derived.Deep.DeepCutAuto
namespace Go.Proofs.YtbmcojelgbkafaaDoor
set_option maxRecDepth 100000
set_option maxHeartbeats 8000000
section
open Go.RowKit

structure DN (w : World) (C NT m : Nat) (y : TV) (T : Tr) (u : World) : Prop where
 g : Chg (fun b => b = C) w u
 r : Bx u w.heap.size zcs
 x : Bx u NT y.cells
 f : TreeF m u (fun b => w.heap.size < b ∧ b < NT) y T
 c : Cur u C
 s : sizeT m T ≤ 100000
 l : C < w.heap.size ∧ w.heap.size < NT
theorem DN.turn {w u u' : World} {C NT m : Nat} {y : TV} {T : Tr} (h : DN w C NT m y T u) (hg : Chg (fun b => b = C) u u') (hc : Cur u' C) : DN w C NT m y T u' := by
 have l := h.l
 exact ⟨h.g.trans hg (fun _ _ e => e), ⟨row_chg h.r.1 hg (fun (e : _ = _) => by omega), h.r.2⟩, ⟨row_chg h.x.1 hg (fun (e : _ = _) => by omega), h.x.2⟩, h.f.chg hg (fun b hb e => by have := hb.1; omega), hc, h.s, l⟩
theorem DN.drew {w u : World} {C NT m : Nat} {y : TV} {T : Tr} (h : DN w C NT m y T u) : DN w C NT m y T u.drew := h.turn (Chg.of_below (F := fun b => b = C) (Below.refl _ u).drew) (h.c.below (Below.refl _ u).drew)
theorem DN.low {w u u' : World} {C NT m : Nat} {y : TV} {T : Tr} (h : DN w C NT m y T u) (hb : Below (NT + 1) u u') : DN w C NT m y T u' := by
 have l := h.l
 have hx := h.x.lt
 have hg : Chg (fun b => NT < b) u u' := ⟨hb.os, hb.tape, hb.output, hb.size, fun b _ hn => hb.block b (by omega)⟩
 exact ⟨h.g.trans hg (fun b hb e => by omega), ⟨row_chg h.r.1 hg (fun (e : _ < _) => by omega), h.r.2⟩, ⟨row_chg h.x.1 hg (fun (e : _ < _) => by omega), h.x.2⟩, h.f.chg hg (fun b hb e => by have := hb.2; omega), h.c.chg hg (fun b hb => by omega), h.s, l⟩
theorem DN.kid {w u : World} {C NT m : Nat} {y : TV} {T : Tr} (h : DN w C NT (m + 1) y T u) {xs : List TV} (he : Els m u (fun b => w.heap.size < b ∧ b < NT) xs T.kids) {i : Nat} (hi : i < T.kids.length) : DN w C NT m (tvAt xs i) (kidT T i) (u.setCells NT 0 (tvAt xs i).cells) := by
 have l := h.l
 have hg : Chg (fun b => b = NT) u (u.setCells NT 0 (tvAt xs i).cells) := Chg.setCells (F := fun b => b = NT) (g := NT) (fun _ => rfl) _ 0 u (Chg.refl _ _)
 exact ⟨h.g.trans hg (fun b hb e => by omega), ⟨row_chg h.r.1 hg (fun (e : _ = _) => by omega), h.r.2⟩, h.x.set rfl, (he.2 i (by rw [he.1]; exact hi)).chg hg (fun b hb e => by have := hb.2; omega), h.c.chg hg (fun b hb => by omega), by have := sizeT_kid (n := m) hi; have := h.s; omega, l⟩
theorem kid_range {u : World} {a : Option Addr} {n q : Nat} {xs : List TV} (h : Row u (.slice a n q) n (flatT xs)) (hn : xs.length = n) {i : Nat} (hi : i < n) : ∃ b o, a = some ⟨b, o, none⟩ ∧ u.rangeAt b (o + i * 5) (tvAt xs i).cells := by
 obtain ⟨a', b, off, cap, he, _, _, ha, hk, _⟩ := h
 simp at he
 obtain ⟨rfl, rfl⟩ := he
 obtain ⟨e0, e1, e2, e3, e4⟩ := flatT_at xs i (by omega)
 refine ⟨b, off, ha (by omega), fun j v hv => ?_⟩
 match j, hv with
 | 0, hv => simp [TV.cells] at hv; subst hv; exact hk _ _ e0
 | 1, hv => simp [TV.cells] at hv; subst hv; have := hk _ _ e1; rwa [show off + i * 5 + 1 = off + (i * 5 + 1) by omega]
 | 2, hv => simp [TV.cells] at hv; subst hv; have := hk _ _ e2; rwa [show off + i * 5 + 2 = off + (i * 5 + 2) by omega]
 | 3, hv => simp [TV.cells] at hv; subst hv; have := hk _ _ e3; rwa [show off + i * 5 + 3 = off + (i * 5 + 3) by omega]
 | 4, hv => simp [TV.cells] at hv; subst hv; have := hk _ _ e4; rwa [show off + i * 5 + 4 = off + (i * 5 + 4) by omega]
 | j + 5, hv => simp [TV.cells] at hv
theorem DN.lens {w u : World} {C NT m : Nat} {y : TV} {T : Tr} (h : DN w C NT m y T u) : T.pairs.length ≤ 100000 ∧ T.cuts.length ≤ 100000 ∧ T.kids.length ≤ 100000 ∧ T.buf.length ≤ 100000 := by
 cases m with
 | zero => exact h.f.elim
 | succ m => have := h.s; unfold sizeT at this; omega

def NodeDrawn (C : Nat) (w : World) (e : Ending) (w' : World) : Prop := ∃ (y : TV) (T : Tr) (vk : Value) (ks : List Int), e = .returned (.tuple #[y.val, vk]) ∧ (T.pairs.length ≤ 100000 ∧ T.cuts.length ≤ 100000 ∧ T.kids.length ≤ 100000 ∧ T.buf.length ≤ 100000) ∧ ks.length ≤ 100001 ∧ TreeF 8 w' (fun b => w.heap.size ≤ b) y T ∧ OwnI w.heap.size w' vk ks ∧ Cur w' C ∧ Chg (fun g => g = C) w w'

theorem res_ct {P : Program} {fn : Func} {p q : Tmp} {ty : TypeId} (h : fn.results = #[.cell p ty, .tmp q]) (tmps : Array Value) (w : World) (g : Nat) (t : TypeId) (cs : Array Value) (fr : Nat × Nat) (d : TypeDesc) (v : Value)
  (hp : tmps.getD p undef = .pointer (some ⟨g, 0, none⟩)) (hg : w.heap[g]? = some (.cells cs t fr)) (hq : tmps.getD q undef = v)
  (hu : P.underlying ty = some d) (hd : (match d with | .struct _ | .array _ _ => true | _ => false) = true) (hi : (P.info? ty).map (·.size) = some cs.size) :
  (results fn tmps).run P w = .ok (.tuple #[.agg cs, v]) w := by
 have hp' : tmps[p]?.getD undef = .pointer (some ⟨g, 0, none⟩) := by simpa using hp
 have hq' : tmps[q]?.getD undef = v := by simpa using hq
 simp [results, h, hp', hq', asAddr, run_loadVar_row w g t ty cs fr d hg hu hd hi]
theorem run_below (args : Array Value) (w : World) : (callFunc 24 args).run Tryd.prog w = .ok (.enter 24 args) w := by go_simp

theorem succ_num {n : Nat} (h : n ≤ 1000000) : Value.int IntKind.i64 (wrap64 ((n : Int) + 1)) = .int .i64 ((n + 1 : Nat) : Int) := by rw [IntWalk.wrap64_in _ (by omega)]; rfl
theorem roomJ {n m : Nat} (h : n + m ≤ 1000000) : n + m ≤ maxLen ∧ (n + m) * 8 ≤ 140737488355328 := ⟨by unfold maxLen; omega, by omega⟩

theorem l5DrawNode_any (C : Nat) (v : Value) (bs : List Int) (w : World) (hc : Cur w C) (hcode : Code8 w v bs) (hn : bs.length ≤ 1048576) :
  Calls Tryd.prog 14 #[.pointer (some ⟨C, 0, none⟩), v] w (NodeDrawn C w) := by
 obtain ⟨i0, hi, hz0, hz1, hz2⟩ := info_parts Tryd.infoInt
 have hCw : C < w.heap.size := hc.lt
 have HD := hid (l2Draw_w C v bs (w.alloc (.cells zcs.toArray 29)) (hc.alloc _) (hcode.below (al1 _ _)) hn)
 have R0 := hid (Bx.start w (cs := zcs) rfl)
 clear hc hcode hn
 go_enter Tryd.func14, Tryd.ntmps14
 go_wp2_with fail
 refine Calls.mono HD.out ?_
 rintro e w2 ⟨y, T, rfl, hsz, hwt, TF, c2, G2⟩
 have hs2 : w.heap.size + 1 ≤ w2.heap.size := by have := G2.size; simpa using this
 have J2 : Hid (∀ cs, cs = y.cells → DN w C w2.heap.size 8 y T (w2.alloc (.cells cs.toArray 29))) := by
  rintro cs rfl
  have al := al1 w2 (.cells y.cells.toArray 29)
  have r0 := R0.out
  exact ⟨((Chg.of_below (F := fun g => g = C) (al1 w _)).trans G2 (fun _ _ h => h)).alloc _, Bx.step ⟨row_chg r0.1 G2 (fun (e : _ = _) => by omega), r0.2⟩ al, Bx.start w2 rfl, ((TF.lt).below al).mono (fun b hb => ⟨by have := hb.1; simp at this; omega, hb.2⟩), c2.below al, hsz, hCw, by omega⟩
 obtain ⟨ya1, ya2, ya3, ya4, yq1, yq2, yq3, yq4, hyy⟩ := TF.treeAt.shape
 clear hsz hwt TF c2 G2 HD R0 hs2
 have hval : y.val = .agg #[.bool T.leaf, .slice ya1 T.pairs.length yq1, .slice ya2 T.cuts.length yq2, .slice ya3 T.kids.length yq3, .slice ya4 T.buf.length yq4] := by rw [hyy]
 rw [hval]
 clear hval
 go_upto_block 0 with fail
 refine wp_gen (fun u => DN w C w2.heap.size 8 y T u) (J2.out _ (by rw [hyy]; rfl)) ?_
 intro V hV
 have JV := hid hV
 clear hV J2 hyy
 generalize w2.heap.size = NT at *
 go_cut [] (fun wx => ∃ (m : Nat) (y : TV) (T : Tr), m ≤ 8 ∧ Hid (DN w C NT m y T wx))
 case first =>
  go_wp2_with fail
  go_loopg [] 8 (fun gk wr => ∃ (y : TV) (T : Tr), gk ≤ 8 ∧ Hid (DN w C NT gk y T wr))
  case atStart => exact ⟨y, T, Nat.le_refl _, JV⟩
  case round =>
   obtain ⟨y, T, hm, J⟩ := hrel
   clear JV
   cases gk with
   | zero => exact J.out.f.elim
   | succ gk =>
   obtain ⟨za1, za2, za3, za4, zq1, zq2, zq3, zq4, hyy⟩ := J.out.f.treeAt.shape
   subst hyy
   have d3 : wr.cell? ⟨NT, 3, none⟩ = some (.slice za3 T.kids.length zq3) := J.out.x.rg 3 _ rfl
   by_cases hl : 0 < T.kids.length
   ·have hl' : (0 : Int) < T.kids.length := by omega
    go_wp2_with fail
    refine Calls.mono (l1Once_any C 2 wr J.out.c (by decide)) ?_
    rintro e w3 ⟨b, rfl, c3, g3⟩
    have J3 := hid (J.out.turn g3 c3)
    clear J c3 g3 d3
    cases b
    ·go_wp2
     go_meet
     case rel => exact ⟨_, _, _, hm, J3⟩
    ·go_upto_region 3 with fail
     have hlen := J3.out.lens.2.2.1
     obtain ⟨_, _, _, _, xs, hxl, hrow, hels⟩ := J3.out.f
     have EL := hid (show Els gk w3 (fun b => w.heap.size < b ∧ b < NT) xs T.kids from ⟨hxl, hels⟩)
     have RW := hid (show RowF w3 (fun b => w.heap.size < b ∧ b < NT) (.slice za3 T.kids.length zq3) T.kids.length (flatT xs) from hxl ▸ hrow)
     clear hrow hels
     refine wp_region_last (fun u => Bx u NT (⟨T.leaf, .slice za1 T.pairs.length zq1, .slice za2 T.cuts.length zq2, .slice za3 T.kids.length zq3, .slice za4 T.buf.length zq4⟩ : TV).cells) [_, _, _, _, _, _, _, _, _] _ rfl (by kernel_rfl) (by kernel_rfl) ?_
     have JD := hid (And.intro J3.out.drew (And.intro (show Els gk w3.drew (fun b => w.heap.size < b ∧ b < NT) xs T.kids from ⟨hxl, fun i hi => (EL.out.2 i hi).below (Below.refl _ w3).drew⟩) (RW.out.below (Below.refl _ w3).drew)))
     clear J3 EL RW
     generalize w3.drew = wd at *
     refine tk 0 (oi := ⟨_, _, _, _, _, _⟩) (v := .pointer (some ⟨NT, 3, none⟩)) rfl (by kernel_rfl) (fun _ _ _ h => h) (Or.inl ⟨by rfl, fun u hu => by go_simp⟩) JD.out.1.x ?_
     simp only [Act.put, sA, sB, sC]
     refine tk 1 (oi := ⟨_, _, _, _, _, _⟩) (v := .slice za3 T.kids.length zq3) rfl (by kernel_rfl) (fun _ _ _ h => h) (Or.inl ⟨by rfl, fun u hu => by have d : u.cell? ⟨NT, 3, none⟩ = some (.slice za3 T.kids.length zq3) := hu.rg 3 _ rfl; go_simp⟩) JD.out.1.x ?_
     simp only [Act.put, sA, sB, sC]
     refine tk 2 (oi := ⟨_, _, _, _, _, _⟩) (v := .pointer (some ⟨C, 0, none⟩)) rfl (by kernel_rfl) (fun _ _ _ h => h) (Or.inl ⟨by rfl, fun u hu => by go_simp⟩) JD.out.1.x ?_
     simp only [Act.put, sA, sB, sC]
     refine tk 3 (oi := ⟨_, _, _, _, _, _⟩) (v := .pointer (some ⟨NT, 3, none⟩)) rfl (by kernel_rfl) (fun _ _ _ h => h) (Or.inl ⟨by rfl, fun u hu => by go_simp⟩) JD.out.1.x ?_
     simp only [Act.put, sA, sB, sC]
     refine tk 4 (oi := ⟨_, _, _, _, _, _⟩) (v := .slice za3 T.kids.length zq3) rfl (by kernel_rfl) (fun _ _ _ h => h) (Or.inl ⟨by rfl, fun u hu => by have d : u.cell? ⟨NT, 3, none⟩ = some (.slice za3 T.kids.length zq3) := hu.rg 3 _ rfl; go_simp⟩) JD.out.1.x ?_
     simp only [Act.put, sA, sB, sC]
     refine tk 5 (oi := ⟨_, _, _, _, _, _⟩) (v := .int .i64 T.kids.length) rfl (by kernel_rfl) (fun _ _ _ h => h) (Or.inl ⟨by rfl, fun u hu => by go_simp⟩) JD.out.1.x ?_
     simp only [Act.put, sA, sB, sC]
     refine rq 6 (by kernel_rfl) rfl (fun K hK => ?_)
     refine (if_pos (show Region.wanted _ _ = true by kernel_rfl)).mpr ?_
     refine call_by 24 [.tmp 22, .tmp 25] #[41, 3] rfl run_below [.pointer (some ⟨C, 0, none⟩), .int .i64 T.kids.length] rfl (l1Below_any C T.kids.length wd JD.out.1.c (by omega)) ?_
     rintro e w4 ⟨x, rfl, hx0, hx1, _, c4, g4⟩
     have hx2 := hx1 hl'
     obtain ⟨i, rfl⟩ := Int.eq_ofNat_of_zero_le hx0
     have hik : i < T.kids.length := by omega
     have J4 := hid (JD.out.1.turn g4 c4)
     have EL4 := hid (show Els gk w4 (fun b => w.heap.size < b ∧ b < NT) xs T.kids from ⟨hxl, fun i hi => (JD.out.2.1.2 i hi).chg g4 (fun b hb e => by have := hb.1; have := JD.out.1.l.1; omega)⟩)
     have RW4 := hid (JD.out.2.2.chg g4 (fun b hb e => by have := hb.1; have := JD.out.1.l.1; omega))
     refine ⟨_, rfl, hK.out _ _ J4.out.x (fun _ => ?_)⟩
     obtain ⟨kb, ko, hza, hrg⟩ := kid_range RW4.out.row hxl hik
     subst hza
     have RG := hid hrg
     clear hK K c4 g4 JD hrg hx0 hx1 RW4
     simp only [Act.put, sA, sB, sC]
     refine tk 7 (oi := ⟨_, _, _, _, _, _⟩) (v := .pointer (some ⟨kb, ko + i * 5, none⟩)) rfl (by kernel_rfl) (fun _ _ _ h => h) (Or.inl ⟨by rfl, fun u hu => by go_simp⟩) J4.out.x ?_
     simp only [Act.put, sA, sB, sC]
     refine rq 8 (by kernel_rfl) rfl (fun K hK => ?_)
     refine (if_pos (show Region.wanted _ _ = true by kernel_rfl)).mpr ?_
     refine wp_load_mid 29 _ rfl kb (ko + i * 5) rfl (tvAt xs i).cells _ RG.out Tryd.underlying29 rfl (infoT5 (tvAt xs i).cells_len) (hK.out _ _ J4.out.x (fun _ => ?_))
     clear hK K
     simp only [Act.put, sA, sB, sC]
     refine wpAnyH_done (by kernel_rfl) ?_ _
     show Oper.wp _ _ _ _ _ _
     have J5 := hid (J4.out.kid EL4.out hik)
     refine wp_store_mid 29 _ _ rfl NT 0 (tvAt xs i).cells.toArray rfl rfl (J4.out.x.there rfl) (infoT5 (tvAt xs i).cells_len) J5.out.f.treeAt.ones ?_
     simp only [Act.put]
     go_wp2
     go_roundg gk
     case measure => omega
     case rel => exact ⟨_, _, by omega, J5⟩
   ·have hl' : ¬ (0 : Int) < T.kids.length := by omega
    go_wp2
    go_meet
    case rel => exact ⟨_, _, _, hm, J⟩
 case rest =>
 obtain ⟨m, y, T, hm, J⟩ := hcut
 clear JV
 obtain ⟨za1, za2, za3, za4, zq1, zq2, zq3, zq4, hyy⟩ := J.out.f.treeAt.shape
 subst hyy
 have OE := hid (show OwnI (NT + 1) (wc.alloc (.cells #[] 3)) (.slice (some ⟨wc.heap.size, 0, none⟩) 0 0) [] from empty_own wc (NT + 1) 3 1 J.out.x.lt)
 have JE := hid (J.out.low (Below.alloc (Below.refl _ wc) J.out.x.lt (.cells #[] 3)))
 have HL := hid J.out.lens.2.2.1
 clear J
 go_wp2_with fail
 generalize wc.alloc (.cells #[] 3) = wd at *
 go_loopg [7, 8] T.kids.length (fun gk v7 v8 wr => ∃ (a : Option Addr) (q : Nat) (ks : List Int), v7 = .slice a ks.length q ∧ v8 = .int .i64 ks.length ∧ gk + ks.length = T.kids.length ∧ Hid (OwnI (NT + 1) wr (.slice a ks.length q) ks) ∧ Hid (DN w C NT m ⟨T.leaf, .slice za1 T.pairs.length zq1, .slice za2 T.cuts.length zq2, .slice za3 T.kids.length zq3, .slice za4 T.buf.length zq4⟩ T wr))
 case atStart => exact ⟨_, _, [], rfl, rfl, rfl, OE, JE⟩
 case round =>
  obtain ⟨a, q, ks, rfl, rfl, hgk, O, J⟩ := hrel
  clear OE JE
  have d3 : wr.cell? ⟨NT, 3, none⟩ = some (.slice za3 T.kids.length zq3) := J.out.x.rg 3 _ rfl
  by_cases hl : ks.length < T.kids.length
  ·have hl' : (ks.length : Int) < T.kids.length := by omega
   go_wp2_with fail
   refine Calls.mono (l1Below_any C 300 wr J.out.c (by decide)) ?_
   rintro e w3 ⟨x, rfl, _, _, _, c3, g3⟩
   have J3 := hid (J.out.turn g3 c3)
   have O3 := hid (show OwnI (NT + 1) (w3.alloc (.cells #[.int .i64 x] 3)) (.slice a ks.length q) ks from owns_below (owns_chg O.out g3 (fun g hg e => by have := (World.ownsRow.lt O.out g hg).1; have := J3.out.l; omega)) (bel_new _ _))
   have R3 := hid (Row.laidN w3 (flatI [x]) 3 1 rfl (by decide))
   have K3 := hid (J3.out.low (Below.alloc (Below.refl _ w3) J3.out.x.lt (.cells #[.int .i64 x] 3)))
   have HR := hid (roomI (n := ks.length) (m := 1) (by have := HL.out; omega))
   have hs3 : NT + 1 ≤ (w3.alloc (.cells #[.int .i64 x] 3)).heap.size := K3.out.x.lt
   clear J O c3 g3 d3 J3
   go_wp2_with (at_builtin; refine app_row (w3.alloc (.cells #[.int .i64 x] 3)) rfl _ _ 25 rfl (NT + 1) 3 i0 _ 1 8 Tryd.underlying25 hi hz0 hz1 hz2 rfl (by decide) (.slice a ks.length q) ks.length (flatI ks) rfl O3.out (.slice (some ⟨w3.heap.size, 0, none⟩) 1 1) 1 (flatI [x]) rfl R3.out rfl (flatI_oneC _) HR.out.1 HR.out.2 hs3 ?_)
   intro v5 w5 ho5 _ hb5
   have O5 := hid (OwnI.app (m := [x]) ho5)
   have J5 := hid (K3.out.low hb5)
   obtain ⟨a5, q5, rfl, _, _⟩ := owns_shape O5.out
   clear ho5 hb5 O3 R3 K3 HR
   go_wp2
   have hkb : ks.length ≤ 1000000 := by have := HL.out; omega
   have hsx : Value.int IntKind.i64 (wrap64 ((ks.length : Int) + 1)) = .int .i64 ((ks ++ [x]).length : Nat) := by rw [List.length_append, List.length_singleton]; exact succ_num hkb
   go_roundg (gk - 1)
   case measure => omega
   case rel => exact ⟨a5, q5, ks ++ [x], rfl, hsx, by simp; omega, O5, J5⟩
  ·go_wp2_with fail
   refine Calls.mono (l1Once_any C 15 wr J.out.c (by decide)) ?_
   rintro e w3 ⟨b, rfl, c3, g3⟩
   have J3 := hid (J.out.turn g3 c3)
   have O3 := hid (owns_chg O.out g3 (fun g hg e => by have := (World.ownsRow.lt O.out g hg).1; have := J3.out.l; omega))
   clear J O c3 g3 d3
   go_upto_if 43 with fail
   go_cut [7] (fun s7 wx => ∃ (a : Option Addr) (q : Nat) (ks : List Int), s7 = .slice a ks.length q ∧ ks.length ≤ 100001 ∧ Hid (OwnI (NT + 1) wx (.slice a ks.length q) ks) ∧ Hid (DN w C NT m ⟨T.leaf, .slice za1 T.pairs.length zq1, .slice za2 T.cuts.length zq2, .slice za3 T.kids.length zq3, .slice za4 T.buf.length zq4⟩ T wx))
   case first =>
    have hkb : ks.length ≤ 100001 := by have := HL.out; omega
    cases b
    ·go_wp2
     go_meet
     case rel => exact ⟨a, q, ks, rfl, hkb, O3, J3⟩
    ·have O4 := hid (show OwnI (NT + 1) (w3.alloc (.cells #[.int .i64 1] 3)) (.slice a ks.length q) ks from owns_below O3.out (bel_new _ _))
     have R4 := hid (Row.laidN w3 (flatI [1]) 3 1 rfl (by decide))
     have K4 := hid (J3.out.low (Below.alloc (Below.refl _ w3) J3.out.x.lt (.cells #[.int .i64 1] 3)))
     have HR := hid (roomJ (n := ks.length) (m := 1) (by omega))
     have hs4 : NT + 1 ≤ (w3.alloc (.cells #[.int .i64 1] 3)).heap.size := K4.out.x.lt
     clear J3 O3
     go_wp2_with (at_builtin; refine app_row (w3.alloc (.cells #[.int .i64 1] 3)) rfl _ _ 25 rfl (NT + 1) 3 i0 _ 1 8 Tryd.underlying25 hi hz0 hz1 hz2 rfl (by decide) (.slice a ks.length q) ks.length (flatI ks) rfl O4.out (.slice (some ⟨w3.heap.size, 0, none⟩) 1 1) 1 (flatI [1]) rfl R4.out rfl (flatI_oneC _) HR.out.1 HR.out.2 hs4 ?_)
     intro v5 w5 ho5 _ hb5
     have O5 := hid (OwnI.app (m := [1]) ho5)
     have J5 := hid (K4.out.low hb5)
     obtain ⟨a5, q5, rfl, _, _⟩ := owns_shape O5.out
     clear ho5 hb5 O4 R4 K4 HR
     go_wp2
     go_meet
     case rel => exact ⟨a5, q5, ks ++ [1], rfl, by have := HL.out; simp; omega, O5, J5⟩
   case rest =>
   obtain ⟨ak, qk, ks, rfl, hkl, O, J⟩ := hcut
   clear O3 J3
   have LN := hid J.out.lens
   have TA := hid J.out.f.treeAt
   have ON := hid TA.out.ones
   go_upto_region 11 with fail
   have FF : Hid (∀ y : TV, y = ⟨T.leaf, .slice za1 T.pairs.length zq1, .slice za2 T.cuts.length zq2, .slice za3 T.kids.length zq3, .slice za4 T.buf.length zq4⟩ → TreeF 8 (wc.setCells w.heap.size 0 y.cells) (fun b => w.heap.size ≤ b) y T ∧ OwnI w.heap.size (wc.setCells w.heap.size 0 y.cells) (.slice ak ks.length qk) ks ∧ Cur (wc.setCells w.heap.size 0 y.cells) C ∧ Chg (fun g => g = C) w (wc.setCells w.heap.size 0 y.cells) ∧ Bx (wc.setCells w.heap.size 0 y.cells) w.heap.size y.cells) := by
    rintro y rfl
    have hg : Chg (fun b => b = w.heap.size) wc (wc.setCells w.heap.size 0 (⟨T.leaf, .slice za1 T.pairs.length zq1, .slice za2 T.cuts.length zq2, .slice za3 T.kids.length zq3, .slice za4 T.buf.length zq4⟩ : TV).cells) := Chg.setCells (F := fun b => b = w.heap.size) (g := w.heap.size) (fun _ => rfl) _ 0 wc (Chg.refl _ _)
    have l := J.out.l
    exact ⟨((J.out.f.chg hg (fun b hb e => by have := hb.1; omega)).le hm).mono (fun b hb => by have := hb.1; omega), owns_mono (owns_chg O.out hg (fun g hgo e => by have := (World.ownsRow.lt O.out g hgo).1; omega)) (by omega), J.out.c.chg hg (fun b hb => by omega), J.out.g.trans hg (fun b hb e => by omega), J.out.r.set rfl⟩
   go_wp2_with (first | refine ldT rfl rfl _ rfl NT rfl _ J.out.x ?_ | refine stT rfl rfl _ _ rfl w.heap.size ⟨T.leaf, .slice za1 T.pairs.length zq1, .slice za2 T.cuts.length zq2, .slice za3 T.kids.length zq3, .slice za4 T.buf.length zq4⟩ rfl rfl J.out.r ON.out ?_)
   have F5 := hid (FF.out _ rfl)
   refine ⟨rfl, _, res_ct Tryd.results14 _ _ w.heap.size 29 _ (0, 0) _ (.slice ak ks.length qk) rfl F5.out.2.2.2.2.1 rfl Tryd.underlying29 rfl (infoT5 rfl), ?_⟩
   exact ⟨_, T, _, ks, rfl, LN.out, hkl, F5.out.1, F5.out.2.1, F5.out.2.2.1, F5.out.2.2.2.1⟩
end
section
open Go.RowKit

def PutDrawn (w : World) (e : Ending) (w' : World) : Prop := ∃ (y : TV) (T : Tr) (vk : Value) (ks : List Int), e = .returned (.tuple #[y.val, vk]) ∧ (T.pairs.length ≤ 100000 ∧ T.cuts.length ≤ 100000 ∧ T.kids.length ≤ 100000 ∧ T.buf.length ≤ 100000) ∧ ks.length ≤ 100001 ∧ TreeAt 8 w' y T ∧ Row w' vk ks.length (flatI ks) ∧ Below w.heap.size w w'

theorem drawPutNode_any (v : Value) (bs : List Int) (w : World) (hcode : Code8 w v bs) (hn : bs.length ≤ 1048576) :
  Calls Tryd.prog 5 #[v] w (PutDrawn w) := by
 have CO := hid (fun u (hu : Below w.heap.size w u) => hcode.below hu)
 have B0 := hid (al1 w (.cells zcs.toArray 29))
 have R0 := hid (Bx.start w (cs := zcs) rfl)
 have HN := hid (l1New_any v bs (w.alloc (.cells zcs.toArray 29)) (CO.out _ B0.out) hn)
 have HB := hid hn
 clear hcode hn
 go_enter Tryd.func5, Tryd.ntmps5
 go_wp2_with fail
 refine Calls.mono HN.out ?_
 rintro e w1 ⟨rfl, c1, hlt, b1⟩
 have I1 := hid (And.intro (Below.and B0.out b1) (R0.out.step b1))
 have HC : Hid (w.heap.size < (w.alloc (.cells zcs.toArray 29)).heap.size) := by show _ < _; simp
 generalize (w.alloc (.cells zcs.toArray 29)).heap.size = C at *
 have HD := hid (l5DrawNode_any C v bs w1 c1 (CO.out _ I1.out.1) HB.out)
 clear c1 hlt b1 HN B0 R0 CO HB
 go_wp2_with fail
 refine Calls.mono HD.out ?_
 rintro e w2 ⟨y, T, vk, ks, rfl, hl, hkl, ht, hk, c2, G2⟩
 clear HD c2
 obtain ⟨ya1, ya2, ya3, ya4, yq1, yq2, yq3, yq4, hyy⟩ := ht.treeAt.shape
 obtain ⟨ak, qk, hvk, _⟩ := hk.row.len
 subst hyy
 subst hvk
 have LN := hid (And.intro hl hkl)
 have ON := hid ht.treeAt.ones
 have J2 : Hid (∀ cs, cs = (⟨T.leaf, .slice ya1 T.pairs.length yq1, .slice ya2 T.cuts.length yq2, .slice ya3 T.kids.length yq3, .slice ya4 T.buf.length yq4⟩ : TV).cells → ∀ u, u = w2.alloc (.cells cs.toArray 29) → Bx u w2.heap.size cs ∧ Bx u w.heap.size zcs ∧ (TreeAt 8 (u.setCells w.heap.size 0 cs) ⟨T.leaf, .slice ya1 T.pairs.length yq1, .slice ya2 T.cuts.length yq2, .slice ya3 T.kids.length yq3, .slice ya4 T.buf.length yq4⟩ T ∧ Row (u.setCells w.heap.size 0 cs) (.slice ak ks.length qk) ks.length (flatI ks) ∧ Below w.heap.size w (u.setCells w.heap.size 0 cs) ∧ Bx (u.setCells w.heap.size 0 cs) w.heap.size cs)) := by
  rintro cs rfl u rfl
  have hC := HC.out
  have hb1 := I1.out.1
  have hr1 := I1.out.2
  have hl1 : w.heap.size < w1.heap.size := hr1.lt
  have al := al1 w2 (.cells (⟨T.leaf, .slice ya1 T.pairs.length yq1, .slice ya2 T.cuts.length yq2, .slice ya3 T.kids.length yq3, .slice ya4 T.buf.length yq4⟩ : TV).cells.toArray 29)
  have hb2 : Below w.heap.size w w2 := hb1.trans (G2.below (fun g _ e => by omega) hb1.size)
  have r2 : Bx w2 w.heap.size zcs := ⟨row_chg hr1.1 G2 (fun (e : _ = _) => by omega), hr1.2⟩
  have hg := Chg.setCells (F := fun b => b = w.heap.size) (g := w.heap.size) (fun _ => rfl) (⟨T.leaf, .slice ya1 T.pairs.length yq1, .slice ya2 T.cuts.length yq2, .slice ya3 T.kids.length yq3, .slice ya4 T.buf.length yq4⟩ : TV).cells 0 (w2.alloc (.cells (⟨T.leaf, .slice ya1 T.pairs.length yq1, .slice ya2 T.cuts.length yq2, .slice ya3 T.kids.length yq3, .slice ya4 T.buf.length yq4⟩ : TV).cells.toArray 29)) (Chg.refl _ _)
  have hb3 := Below.and hb2 al
  exact ⟨Bx.start w2 rfl, r2.step al, ((ht.below al).chg hg (fun b hb e => by omega)).treeAt, Row.of_owns (owns_chg (owns_below hk al) hg (fun g hgo e => by have := (World.ownsRow.lt hk g hgo).1; omega)), hb3.trans (hg.below (fun b _ e => by omega) hb3.size), (r2.step al).set rfl⟩
 clear I1 HC ht hk G2 hl hkl
 go_upto_region 2 with fail
 refine wp_gen (fun u => u = w2.alloc (.cells (⟨T.leaf, .slice ya1 T.pairs.length yq1, .slice ya2 T.cuts.length yq2, .slice ya3 T.kids.length yq3, .slice ya4 T.buf.length yq4⟩ : TV).cells.toArray 29)) rfl ?_
 intro V hV
 have F2 := hid (J2.out _ rfl V hV)
 clear hV J2
 generalize w2.heap.size = NT at *
 go_wp2_with (first | refine ldT rfl rfl _ rfl NT rfl _ F2.out.1 ?_ | refine stT rfl rfl _ _ rfl w.heap.size ⟨T.leaf, .slice ya1 T.pairs.length yq1, .slice ya2 T.cuts.length yq2, .slice ya3 T.kids.length yq3, .slice ya4 T.buf.length yq4⟩ rfl rfl F2.out.2.1 ON.out ?_)
 refine ⟨rfl, _, res_ct Tryd.results5 _ _ w.heap.size 29 _ (0, 0) _ (.slice ak ks.length qk) rfl F2.out.2.2.2.2.2.1 rfl Tryd.underlying29 rfl (infoT5 rfl), ?_⟩
 exact ⟨_, T, _, ks, rfl, LN.out.1, LN.out.2, F2.out.2.2.1, F2.out.2.2.2.1, F2.out.2.2.2.2.1⟩
end
end Go.Proofs.YtbmcojelgbkafaaDoor
