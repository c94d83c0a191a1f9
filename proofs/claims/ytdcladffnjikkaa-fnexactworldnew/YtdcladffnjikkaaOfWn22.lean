/-
  One struct behind a list of them: the slice literal of one, and the row that an append leaves.
  A lead, a command: copied, compared; what a struct's cells are.
  A node whose lists lie in some blocks: what keeps it as it is.
  The program's WorldNew.
  The model's l9Ones: a list of so many of one number.
-/
import Derived.Test.YtdcladffnjikkaaOfWn12
import Derived.Test.YtdcladffnjikkaaOfWn7
import Derived.Great.Walk
import Derived.Great.FillDense
import Derived.Test.YtdcladffnjikkaaOfWn16
import Derived.Test.YtdcladffnjikkaaOfWn3
import Derived.Test.YtdcladffnjikkaaOfWn17
import Derived.Test.YtdcladffnjikkaaOfWn20
import Derived.Test.YtdcladffnjikkaaOfWn21
import Derived.Deep.MidRow
import Derived.Test.YtdcladffnjikkaaOfWn2
import Derived.Test.YtdcladffnjikkaaOfWn18
namespace Go.Proofs.Ytdcladffnjikkaa
set_option maxRecDepth 100000
set_option maxHeartbeats 8000000
section
open Go.RowKit

theorem builtSlice_one {P : Program} (e : TypeId) (ie : TypeInfo) (z : Value) (K : Nat) (hie : P.info? e = some ie) (hz : ie.zero = some z) (hsz : ie.size = K) (hK : 0 < K) (hs : K ≤ 16777216) (ks : List Value) (hl : ks.length = K) : P.builtSlice e 1 [(0, .agg ks.toArray)] = some ks.toArray := by
 unfold Program.builtSlice
 simp only [hie, hz]
 rw [if_neg (by rw [hsz]; omega), hsz]
 obtain ⟨r, h1, h2, h3⟩ := Great.fill_dense hK [.agg ks.toArray] 0 ((Array.range (1 * K)).map (z.cells[· % z.cells.size]!)) (by intro v hv; rw [List.mem_singleton.1 hv]; show ks.toArray.size = K; simpa using hl) (by simp)
 have e1 : [((0 : Nat), Value.agg ks.toArray)] = (([Value.agg ks.toArray].zipIdx 0).map fun x => (x.2, x.1)) := rfl
 rw [e1, h1]
 congr 1
 apply Array.ext_getElem?
 intro k
 rw [h3 k]
 by_cases hk : k < K
 ·rw [if_pos (by simp; exact hk), Nat.div_eq_of_lt hk, Nat.mod_eq_of_lt hk]
  rfl
 ·rw [if_neg (by simp; omega)]
  rw [Array.getElem?_eq_none (by simp; omega), Array.getElem?_eq_none (by simp; omega)]
end
section
open Go.RowKit

theorem eqCmd_c (e : CmdE) (w : World) : Calls Try.prog 36 #[.agg (cmdC e).toArray, .agg (cmdC e).toArray] w fun r w' => r = .returned (.bool true) ∧ Below w.heap.size w w' :=
 (eqCmd_any _ _ _ _ _ _ _ _ _ _ w).mono fun r w' ⟨h1, h2⟩ => ⟨by rw [h1, decide_eq_true rfl], h2⟩
theorem eqLead_c (e : LedE) (w : World) : Calls Try.prog 38 #[.agg (ledC e).toArray, .agg (ledC e).toArray] w fun r w' => r = .returned (.bool true) ∧ Below w.heap.size w w' := by
 show Calls Try.prog 38 #[.agg #[.int .i64 e.1, .int .i64 e.2], .agg #[.int .i64 e.1, .int .i64 e.2]] w _
 have B2 : Hid (Below w.heap.size w ((w.alloc (.cells #[.int .i64 e.1, .int .i64 e.2] 81)).alloc (.cells #[.int .i64 e.1, .int .i64 e.2] 81))) := Below.and (bel_nw _ _) (bel_nw _ _)
 go_enter Try.func38, Try.ntmps38
 go_wp2
 go_ret
 exact ⟨rfl, B2.out⟩
theorem wp_not_by {P : Program} {o : Oper} {a : Act} {K : Act → World → Prop} {Q : Exit → Act → World → Prop} {w : World} (x : Operand) (ho : o.op = .unOp .not 4 x) (b : Bool) (hx : a.eval x = .bool b) (h : K (a.put o.dst (.bool (!b))) w) : o.wp P a w K Q := by
 unfold Oper.wp execOp
 simp only [ho, hx]
 go_simp
 exact h
theorem NodAt.ones {n : Nat} {w : World} {N : NodV} {D D' : Nd} (h : NodAt n w N D) : (nodC (N, D')).toArray.all (·.oneCell') = true := by
 obtain ⟨id, te, vo, lb, lt, lv, s, ro, vv, nv, mv, cm, o⟩ := N
 obtain ⟨h1, h2, h3, h4, h5, h6⟩ := h
 obtain ⟨x1, e1⟩ := h1.sl
 obtain ⟨x3, e3⟩ := h3.sl
 obtain ⟨x4, e4⟩ := h4.sl
 obtain ⟨x5, e5⟩ := h5.sl
 obtain ⟨_, _, _, _, _, _, e2⟩ := h2.sl
 obtain ⟨_, _, _, _, _, _, e6⟩ := h6.sl
 simp only at e1 e2 e3 e4 e5 e6
 subst e1 e2 e3 e4 e5 e6
 simp [nodC, Value.oneCell']
end
section
open Go.RowKit

theorem OwnS.ltS {w : World} {S : Nat → Prop} {e size n : Nat} {v : Value} {xs : List Value} (h : OwnS w S e size v n xs) : OwnS w (fun g => S g ∧ g < w.heap.size) e size v n xs := ⟨h.1, fun g hg => ⟨h.2 g hg, (h.1.lt g hg).2⟩⟩
theorem OwnS.mono {w : World} {S S' : Nat → Prop} {e size n : Nat} {v : Value} {xs : List Value} (h : OwnS w S e size v n xs) (hs : ∀ g, S g → S' g) : OwnS w S' e size v n xs := ⟨h.1, fun g hg => hs g (h.2 g hg)⟩
def NodF (n : Nat) (w : World) (F : Nat → Prop) (N : NodV) (D : Nd) : Prop :=
 OwnS w F 101 6 N.lv D.l.length (flatE D.l) ∧ MacD n w F N.s D.T1 D.d1 ∧ OwnS w F 4 1 N.vv D.vs.length (flatL D.vs) ∧ OwnS w F 3 1 N.nv D.nx.length (flatI D.nx) ∧ OwnS w F 3 1 N.mv D.mt.length (flatI D.mt) ∧ MacD n w F N.o D.T2 D.d2
theorem NodF.chg {n : Nat} {w w' : World} {F P : Nat → Prop} {N : NodV} {D : Nd} (h : NodF n w F N D) (hc : Chg P w w') (hP : ∀ g, F g → ¬ P g) : NodF n w' F N D := by
 obtain ⟨o1, o2, o3, o4, o5, o6⟩ := h
 exact ⟨o1.chg hc hP, MacD.chg o2 hc hP, o3.chg hc hP, o4.chg hc hP, o5.chg hc hP, MacD.chg o6 hc hP⟩
theorem NodF.below {n : Nat} {w w' : World} {F : Nat → Prop} {N : NodV} {D : Nd} (h : NodF n w F N D) (hb : Below w.heap.size w w') : NodF n w' F N D := h.chg (Chg.of_below (F := fun _ => False) hb) (fun _ _ e => e)
theorem MacD.monoF {n : Nat} {w : World} {F G : Nat → Prop} {m : MacV} {T : Tr} {l : DL} (h : MacD n w F m T l) (hg : ∀ g, F g → G g) : MacD n w G m T l := ⟨h.1.mono hg, h.2.1, fun g e => hg g (h.2.2 g e)⟩
theorem NodF.mono {n : Nat} {w : World} {F G : Nat → Prop} {N : NodV} {D : Nd} (h : NodF n w F N D) (hg : ∀ g, F g → G g) : NodF n w G N D := by
 obtain ⟨o1, o2, o3, o4, o5, o6⟩ := h
 exact ⟨o1.mono hg, o2.monoF hg, o3.mono hg, o4.mono hg, o5.mono hg, o6.monoF hg⟩
theorem NodF.ltF {n : Nat} {w : World} {F : Nat → Prop} {N : NodV} {D : Nd} (h : NodF n w F N D) : NodF n w (fun g => F g ∧ g < w.heap.size) N D := by
 obtain ⟨o1, o2, o3, o4, o5, o6⟩ := h
 exact ⟨o1.ltS, ⟨o2.1.lt, o2.2.1, fun g e => ⟨o2.2.2 g e, (o2.2.1.lt g e).2⟩⟩, o3.ltS, o4.ltS, o5.ltS, ⟨o6.1.lt, o6.2.1, fun g e => ⟨o6.2.2 g e, (o6.2.1.lt g e).2⟩⟩⟩
theorem NodF.at {n : Nat} {w : World} {F : Nat → Prop} {N : NodV} {D : Nd} (h : NodF n w F N D) : NodAt n w N D := by
 obtain ⟨o1, o2, o3, o4, o5, o6⟩ := h
 exact ⟨o1.1.rowF.row, MacD.at o2, o3.1.rowF.row, o4.1.rowF.row, o5.1.rowF.row, MacD.at o6⟩
theorem OwnS.none (w : World) (S : Nat → Prop) (e size : Nat) : OwnS w S e size (.slice none 0 0) 0 [] := ⟨OwnE.nil _ _ _ _, fun _ hg => (wrB_none hg).elim⟩
end
section
open Go.RowKit

structure Frm (R : World → (Nat → Prop) → NodV → Nd → Prop) : Prop where
 chg : ∀ (W W' : World) (F P : Nat → Prop) (N : NodV) (D : Nd), R W F N D → Chg P W W' → (∀ g, F g → ¬ P g) → R W' F N D
 mono : ∀ (W : World) (F G : Nat → Prop) (N : NodV) (D : Nd), R W F N D → (∀ g, F g → G g) → R W G N D
theorem Frm.a : Frm (NodA 1) := ⟨fun _ _ _ _ _ _ h hc hP => h.chg hc hP, fun _ _ _ _ _ h hg => h.mono hg⟩
theorem Frm.f : Frm (NodF 1) := ⟨fun _ _ _ _ _ _ h hc hP => h.chg hc hP, fun _ _ _ _ _ h hg => h.mono hg⟩
def NewU (R : World → (Nat → Prop) → NodV → Nd → Prop) (lo k j : Nat) (W : World) (v : Value) (es : List NodE) (G : Nat → Nat → Prop) : Prop :=
 es.length = j ∧ OwnE W lo 48 23 v j (es.map nodC).flatten ∧ (∀ i, i < j → R W (G i) (es.getD i noNod).1 (es.getD i noNod).2 ∧ (newV true i).like (es.getD i noNod).1 ∧ (es.getD i noNod).2 = newD true k) ∧
  (∀ i g, i < j → G i g → lo ≤ g ∧ g < W.heap.size ∧ ¬ wrB v g) ∧ ∀ i i' g, i < i' → i' < j → G i g → ¬ G i' g
section
variable {R : World → (Nat → Prop) → NodV → Nd → Prop}
theorem NewU.chg (hR : Frm R) {lo k j : Nat} {W W' : World} {v : Value} {es : List NodE} {G : Nat → Nat → Prop} {P : Nat → Prop} (h : NewU R lo k j W v es G) (hc : Chg P W W') (hP : ∀ g, lo ≤ g → g < W.heap.size → ¬ P g) : NewU R lo k j W' v es G := by
 obtain ⟨h1, h2, h3, h4, h5⟩ := h
 exact ⟨h1, h2.chg hc (fun g hg => hP g (h2.lt g hg).1 (h2.lt g hg).2), fun i hi => ⟨hR.chg _ _ _ _ _ _ (h3 i hi).1 hc (fun g hg => hP g (h4 i g hi hg).1 (h4 i g hi hg).2.1), (h3 i hi).2⟩, fun i g hi hg => ⟨(h4 i g hi hg).1, Nat.lt_of_lt_of_le (h4 i g hi hg).2.1 hc.size, (h4 i g hi hg).2.2⟩, h5⟩
theorem NewU.start (lo k : Nat) (W : World) : NewU R lo k 0 W (.slice none 0 0) [] (fun _ _ => False) := ⟨rfl, OwnE.nil _ _ _ _, fun _ hi => absurd hi (Nat.not_lt_zero _), fun _ _ hi => absurd hi (Nat.not_lt_zero _), fun _ _ _ _ hi => absurd hi (Nat.not_lt_zero _)⟩
theorem NewU.snoc (hR : Frm R) {lo k j b : Nat} {W W4 W5 : World} {v v' : Value} {es : List NodE} {G : Nat → Nat → Prop} {K : NodV} (h : NewU R lo k j W v es G) (hlo : lo ≤ W.heap.size) (hb : Below W.heap.size W W4) (hn : R W4 (fun g => W.heap.size ≤ g ∧ g < b) K (newD true k)) (hb4 : b ≤ W4.heap.size) (hl : (newV true j).like K)
  (ap : AppTo W4 lo 48 23 v (j + 1) ((es.map nodC).flatten ++ nodC (K, newD true k)) v' W5) : NewU R lo k (j + 1) W5 v' (es ++ [(K, newD true k)]) (fun i g => (i < j ∧ G i g) ∨ (i = j ∧ W.heap.size ≤ g ∧ g < b)) := by
 obtain ⟨h1, h2, h3, h4, h5⟩ := h
 obtain ⟨a1, a2, a3, a4⟩ := ap
 have hs := hb.size
 have gi : ∀ i, i < j → (es ++ [(K, newD true k)]).getD i noNod = es.getD i noNod := fun i hi => by
  simp only [List.getD]
  rw [List.getElem?_append_left (by omega)]
 have gj : (es ++ [(K, newD true k)]).getD j noNod = (K, newD true k) := by
  simp only [List.getD]
  rw [List.getElem?_append_right (by omega), h1, Nat.sub_self]
  rfl
 refine ⟨by simp [h1], by simpa using a1, fun i hi => ?_, fun i g hi hg => ?_, fun i i' g hii hi' hg => ?_⟩
 ·by_cases hij : i < j
  ·rw [gi i hij]
   obtain ⟨n1, n2, n3⟩ := h3 i hij
   exact ⟨hR.mono _ _ _ _ _ (hR.chg _ _ _ _ _ _ (hR.chg _ _ _ _ _ _ n1 (Chg.of_below (F := fun _ => False) hb) (fun _ _ e => e)) a2 (fun g hg => (h4 i g hij hg).2.2)) (fun g hg => .inl ⟨hij, hg⟩), n2, n3⟩
  ·have e : i = j := by omega
   subst e
   rw [gj]
   exact ⟨hR.mono _ _ _ _ _ (hR.chg _ _ _ _ _ _ hn a2 (fun g hg e => by have := (h2.lt g e).2; omega)) (fun g hg => .inr ⟨rfl, hg⟩), hl, rfl⟩
 ·rcases hg with ⟨hij, hg⟩ | ⟨_, hg1, hg2⟩
  ·obtain ⟨m1, m2, m3⟩ := h4 i g hij hg
   exact ⟨m1, Nat.lt_of_lt_of_le (Nat.lt_of_lt_of_le m2 hs) a2.size, fun e => by
    rcases a4 g e with e | e
    ·exact m3 e
    ·omega⟩
  ·exact ⟨by omega, Nat.lt_of_lt_of_le (Nat.lt_of_lt_of_le hg2 hb4) a2.size, fun e => by
    rcases a4 g e with e | e
    ·have := (h2.lt g e).2; omega
    ·omega⟩
 ·rcases hg with ⟨hij, hg⟩ | ⟨hij, hg1, hg2⟩
  ·rintro (⟨hij', hg'⟩ | ⟨_, hg1', _⟩)
   ·exact h5 i i' g hii hij' hg hg'
   ·have := (h4 i g hij hg).2.1; omega
  ·omega
end

theorem implWorldNew_yes (k : Nat) (w : World) (h1 : 1 ≤ k) (h2 : k ≤ 5) :
  Calls Try.prog 5 #[.int .i64 (k : Int)] w fun e w' => ∃ (v : Value) (es : List NodE) (G : Nat → Nat → Prop), e = .returned (.tuple #[.agg #[.int .i64 (k : Int), v, .slice none 0 0, .slice none 0 0, .slice none 0 0, .slice none 0 0], .bool true]) ∧ NewU (NodA 1) w.heap.size k k w' v es G ∧ Below w.heap.size w w' := by
 obtain ⟨i0, hi0, hz0, hz1, hz2⟩ := info_parts (show (Try.prog.info? 48).map (fun i => (i.zero, i.size, i.bytes)) = some (some (.agg nodZ.toArray), 23, 408) by kernel_rfl)
 have hk1 : inB (k : Int) 1 5 = true := inB_iff.2 ⟨by omega, by omega⟩
 have BS := hq (fun (ks : List Value) (hl : ks.length = 23) => builtSlice_one (P := Try.prog) 48 i0 _ 23 hi0 hz0 hz1 (by decide) (by decide) ks hl)
 have RM : Hid (∀ j : Nat, j < k → j + 1 ≤ maxLen ∧ (j + 1) * 408 ≤ 140737488355328) := fun j hj => ⟨by unfold maxLen; omega, by omega⟩
 have CN : Hid (∀ (j : Nat) (u : World), j < k → Calls Try.prog 12 #[.int .i64 (j : Int), .int .i64 (k : Int)] u fun e u' => ∃ K : NodV, e = .returned (.tuple #[K.val, .bool true]) ∧ (newV true j).like K ∧ (NodA 1) u' (fun g => u.heap.size ≤ g ∧ g < u'.heap.size) K (newD true k) ∧ Below u.heap.size u u') := fun j u hj => by
  have e : nnB (j : Int) (k : Int) = true := by unfold nnB; rw [hk1, inB_iff.2 ⟨by omega, by omega⟩]; rfl
  have h := implNodeNew_any (j : Int) (k : Int) u
  rw [e, Int.toNat_natCast] at h
  exact h.mono (fun e u' ⟨K, a1, a2, a3, a4, a5⟩ => ⟨K, a1, a2, a4, a5⟩)
 have HK : Hid (k ≤ 5) := h2
 have B1 : Hid (Below w.heap.size w (w.alloc (.cells #[.int .i64 0, .slice none 0 0, .slice none 0 0, .slice none 0 0, .slice none 0 0, .slice none 0 0] 28))) := bel_nw _ _
 have Y1 : Hid (MBox 28 (w.alloc (.cells #[.int .i64 0, .slice none 0 0, .slice none 0 0, .slice none 0 0, .slice none 0 0, .slice none 0 0] 28)) w.heap.size #[.int .i64 0, .slice none 0 0, .slice none 0 0, .slice none 0 0, .slice none 0 0, .slice none 0 0]) := MBox.start _ w _
 have Z1 : Hid (w.heap.size + 1 = (w.alloc (.cells #[.int .i64 0, .slice none 0 0, .slice none 0 0, .slice none 0 0, .slice none 0 0, .slice none 0 0] 28)).heap.size) := by show _ = _; simp
 go_enter Try.func5, Try.ntmps5
 go_wp2_with fail
 generalize (w.alloc (.cells #[.int .i64 0, .slice none 0 0, .slice none 0 0, .slice none 0 0, .slice none 0 0, .slice none 0 0] 28)) = W1 at *
 refine (sizeOk_any _ _).mono ?_
 rintro e w1 ⟨rfl, hw1⟩
 subst hw1
 rw [hk1]
 go_wp2_with fail
 have B2 : Hid (Below w.heap.size w (w1.alloc (.cells #[.int .i64 (k : Int), .slice none 0 0, .slice none 0 0, .slice none 0 0, .slice none 0 0, .slice none 0 0] 28))) := Below.and B1.out (bel_nw _ _)
 have Y2 : Hid (MBox 28 (w1.alloc (.cells #[.int .i64 (k : Int), .slice none 0 0, .slice none 0 0, .slice none 0 0, .slice none 0 0, .slice none 0 0] 28)) w.heap.size #[.int .i64 0, .slice none 0 0, .slice none 0 0, .slice none 0 0, .slice none 0 0, .slice none 0 0]) := Y1.out.step (bel_nw _ _)
 have X2 : Hid (MBox 28 (w1.alloc (.cells #[.int .i64 (k : Int), .slice none 0 0, .slice none 0 0, .slice none 0 0, .slice none 0 0, .slice none 0 0] 28)) w1.heap.size #[.int .i64 (k : Int), .slice none 0 0, .slice none 0 0, .slice none 0 0, .slice none 0 0, .slice none 0 0]) := MBox.start _ w1 _
 have Z2 : Hid (w1.heap.size + 1 = (w1.alloc (.cells #[.int .i64 (k : Int), .slice none 0 0, .slice none 0 0, .slice none 0 0, .slice none 0 0, .slice none 0 0] 28)).heap.size) := by show _ = _; simp
 clear B1 Y1
 generalize (w1.alloc (.cells #[.int .i64 (k : Int), .slice none 0 0, .slice none 0 0, .slice none 0 0, .slice none 0 0, .slice none 0 0] 28)) = W2 at *
 generalize hX : w1.heap.size = X at *
 clear hX
 go_loopw [15] (fun i wr => ∃ (j : Nat) (v : Value) (es : List NodE) (G : Nat → Nat → Prop), j ≤ k ∧ i = .int .i64 j ∧ Hid (NewU (NodA 1) (X + 1) k j wr v es G) ∧ Hid (MBox 28 wr X #[.int .i64 (k : Int), v, .slice none 0 0, .slice none 0 0, .slice none 0 0, .slice none 0 0]) ∧ Hid (MBox 28 wr w.heap.size #[.int .i64 0, .slice none 0 0, .slice none 0 0, .slice none 0 0, .slice none 0 0, .slice none 0 0]) ∧ Hid (Below w.heap.size w wr) ∧ Hid (X + 1 ≤ wr.heap.size)) (fun i _ => k - (intOf i).toNat)
 case atStart => exact ⟨0, .slice none 0 0, [], _, Nat.zero_le _, rfl, NewU.start _ _ _, X2.out, Y2.out, B2.out, by have := Z2.out; show _ ≤ _; omega⟩
 case round =>
  obtain ⟨j, v, es, G, hj, rfl, NU, XB, YB, BW, SZ⟩ := hrel
  clear B2 Y2 X2 Z2
  by_cases hlt : j < k
  ·have hi2 : (j : Int) < (k : Int) := by omega
   go_wp2_with fail
   refine (CN.out j wr hlt).mono ?_
   rintro e u ⟨K, rfl, hl, hn, hb⟩
   obtain ⟨ks, hks⟩ : ∃ ks : List Value, ks = nodC (K, newD true k) := ⟨_, rfl⟩
   have VE : K.val = .agg ks.toArray := by rw [hks]; rfl
   have hkl : ks.length = 23 := by rw [hks]; rfl
   have ONE : Hid (ks.toArray.all (·.oneCell') = true) := by rw [hks]; exact hn.at.ones
   rw [VE]
   have KE : Hid (ks = nodC (K, newD true k)) := hks
   clear VE hks
   have A1 : Hid (Below u.heap.size u (u.alloc (.cells #[.int .i64 0, .int .i64 0, .int .i64 0, .int .i64 0, .int .i64 0, .slice none 0 0, .bool false, .slice none 0 0, .slice none 0 0, .slice none 0 0, .slice none 0 0, .slice none 0 0, .int .i64 0, .slice none 0 0, .slice none 0 0, .slice none 0 0, .int .i64 0, .bool false, .slice none 0 0, .slice none 0 0, .slice none 0 0, .slice none 0 0, .slice none 0 0] 48))) := bel_nw _ _
   have AY : Hid (MBox 48 (u.alloc (.cells #[.int .i64 0, .int .i64 0, .int .i64 0, .int .i64 0, .int .i64 0, .slice none 0 0, .bool false, .slice none 0 0, .slice none 0 0, .slice none 0 0, .slice none 0 0, .slice none 0 0, .int .i64 0, .slice none 0 0, .slice none 0 0, .slice none 0 0, .int .i64 0, .bool false, .slice none 0 0, .slice none 0 0, .slice none 0 0, .slice none 0 0, .slice none 0 0] 48)) u.heap.size #[.int .i64 0, .int .i64 0, .int .i64 0, .int .i64 0, .int .i64 0, .slice none 0 0, .bool false, .slice none 0 0, .slice none 0 0, .slice none 0 0, .slice none 0 0, .slice none 0 0, .int .i64 0, .slice none 0 0, .slice none 0 0, .slice none 0 0, .int .i64 0, .bool false, .slice none 0 0, .slice none 0 0, .slice none 0 0, .slice none 0 0, .slice none 0 0]) := MBox.start _ u _
   have AZ : Hid (u.heap.size + 1 = (u.alloc (.cells #[.int .i64 0, .int .i64 0, .int .i64 0, .int .i64 0, .int .i64 0, .slice none 0 0, .bool false, .slice none 0 0, .slice none 0 0, .slice none 0 0, .slice none 0 0, .slice none 0 0, .int .i64 0, .slice none 0 0, .slice none 0 0, .slice none 0 0, .int .i64 0, .bool false, .slice none 0 0, .slice none 0 0, .slice none 0 0, .slice none 0 0, .slice none 0 0] 48)).heap.size) := by show _ = _; simp
   have TH : Hid ((u.alloc (.cells #[.int .i64 0, .int .i64 0, .int .i64 0, .int .i64 0, .int .i64 0, .slice none 0 0, .bool false, .slice none 0 0, .slice none 0 0, .slice none 0 0, .slice none 0 0, .slice none 0 0, .int .i64 0, .slice none 0 0, .slice none 0 0, .slice none 0 0, .int .i64 0, .bool false, .slice none 0 0, .slice none 0 0, .slice none 0 0, .slice none 0 0, .slice none 0 0] 48)).there u.heap.size 0 ks.toArray.size) := there_of AY.out (show 23 = ks.toArray.size by rw [List.size_toArray, hkl])
   have HM2 : Hid ((Try.prog.info? 48).map (·.size) = some ks.toArray.size) := by show _ = _; rw [List.size_toArray, hkl]; exact (show (Try.prog.info? 48).map (·.size) = some 23 by kernel_rfl)
   have HM1 : Hid ((Try.prog.info? 48).map (·.size) = some ks.length) := by show _ = _; rw [hkl]; exact (show (Try.prog.info? 48).map (·.size) = some 23 by kernel_rfl)
   have GC : Chg (fun g => g = u.heap.size) (u.alloc (.cells #[.int .i64 0, .int .i64 0, .int .i64 0, .int .i64 0, .int .i64 0, .slice none 0 0, .bool false, .slice none 0 0, .slice none 0 0, .slice none 0 0, .slice none 0 0, .slice none 0 0, .int .i64 0, .slice none 0 0, .slice none 0 0, .slice none 0 0, .int .i64 0, .bool false, .slice none 0 0, .slice none 0 0, .slice none 0 0, .slice none 0 0, .slice none 0 0] 48)) ((u.alloc (.cells #[.int .i64 0, .int .i64 0, .int .i64 0, .int .i64 0, .int .i64 0, .slice none 0 0, .bool false, .slice none 0 0, .slice none 0 0, .slice none 0 0, .slice none 0 0, .slice none 0 0, .int .i64 0, .slice none 0 0, .slice none 0 0, .slice none 0 0, .int .i64 0, .bool false, .slice none 0 0, .slice none 0 0, .slice none 0 0, .slice none 0 0, .slice none 0 0] 48)).setCells u.heap.size 0 ks) := Chg.setCells (F := fun g => g = u.heap.size) (g := u.heap.size) (fun _ => rfl) ks 0 _ (Chg.refl _ _)
   have XF : Hid (((u.alloc (.cells #[.int .i64 0, .int .i64 0, .int .i64 0, .int .i64 0, .int .i64 0, .slice none 0 0, .bool false, .slice none 0 0, .slice none 0 0, .slice none 0 0, .slice none 0 0, .slice none 0 0, .int .i64 0, .slice none 0 0, .slice none 0 0, .slice none 0 0, .int .i64 0, .bool false, .slice none 0 0, .slice none 0 0, .slice none 0 0, .slice none 0 0, .slice none 0 0] 48)).setCells u.heap.size 0 ks).heap[u.heap.size]? = some (.cells ks.toArray 48 (0, 0))) := setAll_at AY.out ks (by rw [hkl]; rfl)
   have B3 : Hid (Below u.heap.size u ((u.alloc (.cells #[.int .i64 0, .int .i64 0, .int .i64 0, .int .i64 0, .int .i64 0, .slice none 0 0, .bool false, .slice none 0 0, .slice none 0 0, .slice none 0 0, .slice none 0 0, .slice none 0 0, .int .i64 0, .slice none 0 0, .slice none 0 0, .slice none 0 0, .int .i64 0, .bool false, .slice none 0 0, .slice none 0 0, .slice none 0 0, .slice none 0 0, .slice none 0 0] 48)).setCells u.heap.size 0 ks)) := A1.out.trans (GC.below (fun g _ hg => by omega) A1.out.size)
   have SE : Hid (u.heap.size + 1 ≤ ((u.alloc (.cells #[.int .i64 0, .int .i64 0, .int .i64 0, .int .i64 0, .int .i64 0, .slice none 0 0, .bool false, .slice none 0 0, .slice none 0 0, .slice none 0 0, .slice none 0 0, .slice none 0 0, .int .i64 0, .slice none 0 0, .slice none 0 0, .slice none 0 0, .int .i64 0, .bool false, .slice none 0 0, .slice none 0 0, .slice none 0 0, .slice none 0 0, .slice none 0 0] 48)).setCells u.heap.size 0 ks).heap.size) := by have := GC.size; have := AZ.out; show _ ≤ _; omega
   clear GC AY AZ A1
   go_upto_region 8 with (refine wpList_store_mid rfl 48 _ _ rfl u.heap.size 0 ks.toArray rfl rfl TH.out HM2.out ONE.out ?_)
   generalize ((u.alloc (.cells #[.int .i64 0, .int .i64 0, .int .i64 0, .int .i64 0, .int .i64 0, .slice none 0 0, .bool false, .slice none 0 0, .slice none 0 0, .slice none 0 0, .slice none 0 0, .slice none 0 0, .int .i64 0, .slice none 0 0, .slice none 0 0, .slice none 0 0, .int .i64 0, .bool false, .slice none 0 0, .slice none 0 0, .slice none 0 0, .slice none 0 0, .slice none 0 0] 48)).setCells u.heap.size 0 ks) = U3 at *
   clear TH
   have RG : Hid (U3.rangeAt u.heap.size 0 ks) := by have := range_of XF.out; rw [List.toList_toArray] at this; exact this
   have BA : Hid (Below wr.heap.size wr U3) := hb.trans (B3.out.mono hb.size)
   have b4 : Below U3.heap.size U3 (U3.alloc (.cells ks.toArray 48)) := bel_nw _ _
   have HR : Hid (Row (U3.alloc (.cells ks.toArray 48)) (.slice (some ⟨U3.heap.size, 0, none⟩) 1 1) 1 ks) := Row.laid U3 ks 48 _ rfl
   have B4 : Hid (Below wr.heap.size wr (U3.alloc (.cells ks.toArray 48))) := Below.and BA.out b4
   have OE : Hid (OwnE (U3.alloc (.cells ks.toArray 48)) (X + 1) 48 23 v j (es.map nodC).flatten) := NU.out.2.1.below B4.out
   have XB3 := hq (XB.out.step BA.out)
   have XB4 := hq (XB.out.step B4.out)
   have NA : Hid ((NodA 1) (U3.alloc (.cells ks.toArray 48)) (fun g => wr.heap.size ≤ g ∧ g < u.heap.size) K (newD true k)) := (hn.below B3.out).below b4
   have c3 := XB3.out.cells
   have ON : Hid (∀ y ∈ ks, y.oneCell' = true) := fun y hy => by have := Array.all_eq_true_iff_forall_mem.1 ONE.out y (by simpa using hy); exact this
   have S4 : Hid (X + 1 ≤ (U3.alloc (.cells ks.toArray 48)).heap.size) := by have := SZ.out; have := B4.out.size; show _ ≤ _; omega
   have UL : Hid (u.heap.size ≤ (U3.alloc (.cells ks.toArray 48)).heap.size) := by have := B3.out.size; have := b4.size; show _ ≤ _; omega
   have HL : Hid ((newV true j).like K) := hl
   clear hb hn hl b4 ONE XF B3 BA SE HM2
   go_wp2_with (first | (at_builtin; refine list_appE (U3.alloc (.cells ks.toArray 48)) rfl _ _ 22 rfl (X + 1) 48 i0 _ 23 408 Try.underlying22 hi0 hz0 hz1 hz2 rfl (by decide) v j (es.map nodC).flatten rfl OE.out (.slice (some ⟨U3.heap.size, 0, none⟩) 1 1) 1 ks rfl HR.out (by rw [hkl]) ON.out (RM.out j hlt).1 (RM.out j hlt).2 S4.out ?_) | (refine Go.Great.wpList_buildSliceTo rfl 22 48 1 _ rfl U3.heap.size rfl _ rfl Try.underlying22 ks.toArray (by rw [Array.toList_map]; exact BS.out ks hkl) ?_) | (refine wpList_load_mid rfl 48 _ rfl u.heap.size 0 rfl ks _ RG.out Try.underlying48 rfl HM1.out ?_))
   intro v' x AP
   have NU5 := NU.out.snoc Frm.a (Nat.le_trans SZ.out (Nat.le_refl _)) B4.out NA.out UL.out HL.out (by rw [← KE.out]; exact AP)
   obtain ⟨ao, cp, bp, _⟩ := AP
   obtain ⟨a9, q9, hv9⟩ := OwnE.slice ao
   subst hv9
   have zx := Z1.out
   have xb : MBox 28 x X #[.int .i64 (k : Int), v, .slice none 0 0, .slice none 0 0, .slice none 0 0, .slice none 0 0] := row_chg XB4.out cp (fun hg => by have := (OE.out.lt _ hg).1; omega)
   have yb : MBox 28 x w.heap.size #[.int .i64 0, .slice none 0 0, .slice none 0 0, .slice none 0 0, .slice none 0 0, .slice none 0 0] := row_chg (YB.out.step B4.out) cp (fun hg => by have := (OE.out.lt _ hg).1; omega)
   have bx : Below w.heap.size w x := (Below.and BW.out B4.out).trans (bp.mono (by omega))
   have sx : X + 1 ≤ x.heap.size := Nat.le_trans S4.out cp.size
   have c5 := xb.cells
   have f5 : ∀ q, x.frozen? ⟨X, q, none⟩ = false := fun q => frozen_of_cells xb
   have ch : Chg (fun g => g = X) x (x.setCell ⟨X, 1, none⟩ (.slice a9 (j + 1) q9)) := (Chg.refl (fun g => g = X) x).setAt X 1 rfl _
   have FIN : Hid (NewU (NodA 1) (X + 1) k (j + 1) (x.setCell ⟨X, 1, none⟩ (.slice a9 (j + 1) q9)) (.slice a9 (j + 1) q9) (es ++ [(K, newD true k)]) (fun i g => (i < j ∧ G i g) ∨ (i = j ∧ wr.heap.size ≤ g ∧ g < u.heap.size)) ∧ MBox 28 (x.setCell ⟨X, 1, none⟩ (.slice a9 (j + 1) q9)) X #[.int .i64 (k : Int), .slice a9 (j + 1) q9, .slice none 0 0, .slice none 0 0, .slice none 0 0, .slice none 0 0] ∧ MBox 28 (x.setCell ⟨X, 1, none⟩ (.slice a9 (j + 1) q9)) w.heap.size #[.int .i64 0, .slice none 0 0, .slice none 0 0, .slice none 0 0, .slice none 0 0, .slice none 0 0] ∧ Below w.heap.size w (x.setCell ⟨X, 1, none⟩ (.slice a9 (j + 1) q9)) ∧ X + 1 ≤ (x.setCell ⟨X, 1, none⟩ (.slice a9 (j + 1) q9)).heap.size) :=
    ⟨NU5.chg Frm.a ch (fun g hg _ e => by omega), heap_setCell_same x X 1 _ _ _ xb, row_chg yb ch (by omega), bx.trans (ch.below (fun g _ hg => by omega) bx.size), Nat.le_trans sx ch.size⟩
   clear NU5 ao cp bp xb yb bx sx ch zx c3 NU XB YB BW SZ XB3 XB4 B4 OE NA S4 UL HL KE HM1 RG HR ON
   go_wp2
   go_roundw
   case rel => exact ⟨j + 1, _, _, _, by omega, by go_num, FIN.out.1, FIN.out.2.1, FIN.out.2.2.1, FIN.out.2.2.2.1, FIN.out.2.2.2.2⟩
   case measure => simp [intOf]; omega
  ·have hi2 : ¬ (j : Int) < (k : Int) := by omega
   have hjk : j = k := by omega
   subst hjk
   obtain ⟨a9, q9, hv9⟩ := OwnE.slice NU.out.2.1
   subst hv9
   have c5 := XB.out.cells
   have d5 := YB.out.cells
   have f5 : ∀ q, wr.frozen? ⟨w.heap.size, q, none⟩ = false := fun q => frozen_of_cells YB.out
   have g0 := heap_setCell_same wr w.heap.size 0 _ _ (.int .i64 (j : Int)) YB.out
   have g1 := heap_setCell_same _ w.heap.size 1 _ _ (.slice a9 j q9) g0
   have g2 := heap_setCell_same _ w.heap.size 2 _ _ (.slice none 0 0) g1
   have g3 := heap_setCell_same _ w.heap.size 3 _ _ (.slice none 0 0) g2
   have g4 := heap_setCell_same _ w.heap.size 4 _ _ (.slice none 0 0) g3
   have g5 := heap_setCell_same _ w.heap.size 5 _ _ (.slice none 0 0) g4
   have ch : Chg (fun g => g = w.heap.size) wr ((((((wr.setCell ⟨w.heap.size, 0, none⟩ (.int .i64 (j : Int))).setCell ⟨w.heap.size, 1, none⟩ (.slice a9 j q9)).setCell ⟨w.heap.size, 2, none⟩ (.slice none 0 0)).setCell ⟨w.heap.size, 3, none⟩ (.slice none 0 0)).setCell ⟨w.heap.size, 4, none⟩ (.slice none 0 0)).setCell ⟨w.heap.size, 5, none⟩ (.slice none 0 0)) := ((((((Chg.refl (fun g => g = w.heap.size) wr).setAt w.heap.size 0 rfl _).setAt w.heap.size 1 rfl _).setAt w.heap.size 2 rfl _).setAt w.heap.size 3 rfl _).setAt w.heap.size 4 rfl _).setAt w.heap.size 5 rfl _
   have zx := Z1.out
   have n6 := NU.out.chg Frm.a ch (fun g hg _ e => by omega)
   have b6 : Below w.heap.size w _ := BW.out.trans (ch.below (fun g _ hg => by omega) BW.out.size)
   have XF : Hid (((((((wr.setCell ⟨w.heap.size, 0, none⟩ (.int .i64 (j : Int))).setCell ⟨w.heap.size, 1, none⟩ (.slice a9 j q9)).setCell ⟨w.heap.size, 2, none⟩ (.slice none 0 0)).setCell ⟨w.heap.size, 3, none⟩ (.slice none 0 0)).setCell ⟨w.heap.size, 4, none⟩ (.slice none 0 0)).setCell ⟨w.heap.size, 5, none⟩ (.slice none 0 0)).heap[w.heap.size]? = some (.cells #[.int .i64 (j : Int), .slice a9 j q9, .slice none 0 0, .slice none 0 0, .slice none 0 0, .slice none 0 0] 28 (0, 0))) := g5
   have FIN : Hid (NewU (NodA 1) w.heap.size j j ((((((wr.setCell ⟨w.heap.size, 0, none⟩ (.int .i64 (j : Int))).setCell ⟨w.heap.size, 1, none⟩ (.slice a9 j q9)).setCell ⟨w.heap.size, 2, none⟩ (.slice none 0 0)).setCell ⟨w.heap.size, 3, none⟩ (.slice none 0 0)).setCell ⟨w.heap.size, 4, none⟩ (.slice none 0 0)).setCell ⟨w.heap.size, 5, none⟩ (.slice none 0 0)) (.slice a9 j q9) es G ∧ Below w.heap.size w ((((((wr.setCell ⟨w.heap.size, 0, none⟩ (.int .i64 (j : Int))).setCell ⟨w.heap.size, 1, none⟩ (.slice a9 j q9)).setCell ⟨w.heap.size, 2, none⟩ (.slice none 0 0)).setCell ⟨w.heap.size, 3, none⟩ (.slice none 0 0)).setCell ⟨w.heap.size, 4, none⟩ (.slice none 0 0)).setCell ⟨w.heap.size, 5, none⟩ (.slice none 0 0))) := ⟨⟨n6.1, n6.2.1.mono (by omega), n6.2.2.1, fun i g hi hg => ⟨by have := (n6.2.2.2.1 i g hi hg).1; omega, (n6.2.2.2.1 i g hi hg).2⟩, n6.2.2.2.2⟩, b6⟩
   clear g0 g1 g2 g3 g4 g5 ch n6 b6 zx NU XB YB BW SZ
   go_wp2
   generalize ((((((wr.setCell ⟨w.heap.size, 0, none⟩ (.int .i64 (j : Int))).setCell ⟨w.heap.size, 1, none⟩ (.slice a9 j q9)).setCell ⟨w.heap.size, 2, none⟩ (.slice none 0 0)).setCell ⟨w.heap.size, 3, none⟩ (.slice none 0 0)).setCell ⟨w.heap.size, 4, none⟩ (.slice none 0 0)).setCell ⟨w.heap.size, 5, none⟩ (.slice none 0 0)) = WF at *
   exact ⟨rfl, _, results_cell_two Try.results5 _ WF w.heap.size 28 _ (0, 0) _ rfl XF.out Try.underlying28 rfl (show (Try.prog.info? 28).map (·.size) = some 6 by kernel_rfl), ⟨_, rfl, ⟨_, _, FIN.out.1⟩, FIN.out.2⟩⟩
end
section
open Go.RowKit

theorem row_new1 (w : World) (x : Value) (t : TypeId) : Row (w.alloc (.cells #[x] t)) (.slice (some ⟨w.heap.size, 0, none⟩) 1 1) 1 [x] := by
 have h : (w.alloc (.cells #[x] t)).heap[w.heap.size]? = some (.cells #[x] t (0, 0)) := heap_alloc_new w _
 refine ⟨some ⟨w.heap.size, 0, none⟩, w.heap.size, 0, 1, rfl, Nat.le_refl _, by unfold maxLen; omega, fun _ => rfl, fun j u hj => ?_, fun h => by cases h⟩
 rw [Nat.zero_add, cell_of_row _ _ j _ t (0, 0) h]
 simpa using hj
theorem rep_succ (k : Nat) (x : Int) : flatI (List.replicate k x) ++ [.int .i64 x] = flatI (List.replicate (k + 1) x) := by
 rw [List.replicate_succ']
 simp [flatI]

theorem l9Ones_any (n : Nat) (x : Int) (w : World) (hn : n ≤ 1048576) :
  Calls Try.prog 29 #[.int .i64 n, .int .i64 x] w fun e w' => ∃ v, e = .returned v ∧ OwnE w' w.heap.size 3 1 v n (flatI (List.replicate n x)) ∧ Below w.heap.size w w' := by
 obtain ⟨i0, hi0, hz0, hz1, hz2⟩ := info_parts Try.info3
 have A1 : Hid (Below w.heap.size w (w.alloc (.cells #[] 3))) := (Below.refl _ _).alloc (Nat.le_refl _) _
 go_enter Try.func29, Try.ntmps29
 go_wp2
 generalize hW : w.alloc (.cells #[] 3) = W at *
 clear hW
 go_loopw [5, 6] (fun out i wr => ∃ (j : Nat), j ≤ n ∧ i = .int .i64 j ∧ Hid (OwnE wr w.heap.size 3 1 out j (flatI (List.replicate j x)) ∧ Below w.heap.size w wr))
  (fun _ i _ => n - (intOf i).toNat)
 case atStart => exact ⟨0, Nat.zero_le _, rfl, OwnE.zero _ _ _ _ _, A1.out⟩
 case round =>
  obtain ⟨j, hj, rfl, HO⟩ := hrel
  by_cases hlt : j < n
  ·have hR : Hid (j + 1 ≤ maxLen ∧ (j + 1) * 8 ≤ 140737488355328) := by unfold maxLen; exact ⟨by omega, by omega⟩
   go_wp2_with (at_builtin; refine list_appE (wr.alloc (.cells #[.int .i64 x] 3)) rfl _ _ 39 rfl w.heap.size 3 i0 _ 1 8 Try.underlying39 hi0 hz0 hz1 hz2 rfl (by decide) _ j (flatI (List.replicate j x)) rfl (HO.out.1.below ((Below.refl _ _).alloc (Nat.le_refl _) _)) (.slice (some ⟨wr.heap.size, 0, none⟩) 1 1) 1 [.int .i64 x] rfl (row_new1 _ _ _) rfl (fun y hy => by simp at hy; subst hy; rfl) hR.out.1 hR.out.2 (Nat.le_trans HO.out.2.size (by simp)) ?_)
   rintro v2 w2 ⟨o1, o2, o3, o4⟩
   rw [rep_succ] at o1
   have B2 : Hid (Below w.heap.size w w2) := (HO.out.2.trans ((Below.refl _ _).alloc HO.out.2.size _)).trans o3
   have O2 : Hid _ := o1
   clear o1 o2 o3 o4 HO hR
   go_wp2
   go_roundw
   case rel => exact ⟨j + 1, by omega, by go_num, O2.out, B2.out⟩
   case measure => simp [intOf]; omega
  ·have hjn : j = n := by omega
   subst hjn
   go_wp2
   go_ret
   exact ⟨_, rfl, HO.out.1, HO.out.2⟩
end
end Go.Proofs.Ytdcladffnjikkaa
