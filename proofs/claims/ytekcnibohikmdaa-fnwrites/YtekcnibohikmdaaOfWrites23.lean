/-
  Rows of trees, piece by piece; the contract of the model's l4Put over trees.
  Trees in memory of their own, each row apart from all others.
  A call of a function in a region that draws its order.
  A string's bytes as a row.
  The model's drawing of numbers off the bytes of a code: what a cursor is, and that every draw returns.
-/
import Derived.Test.YtekcnibohikmdaaOfWrites22
import Derived.Test.YtekcnibohikmdaaOfWrites21
import Derived.Test.YtekcnibohikmdaaOfWrites13
import Derived.Test.YtekcnibohikmdaaOfWrites3
import Derived.Lib.ConvBytes
import Derived.Test.YtekcnibohikmdaaOfWrites1
import Derived.Deep.QuietTactic
import Derived.BigQuiet
import Derived.Deep.RegionWith
namespace Go.Proofs.Ytekcnibohikmdaa
set_option maxRecDepth 100000
set_option maxHeartbeats 8000000
section
open Go.RowKit

def Els (n : Nat) (w : World) (F : Nat → Prop) (xs : List TV) (ts : List Tr) : Prop := xs.length = ts.length ∧ ∀ i, i < xs.length → TreeF n w F (tvAt xs i) (ts.getD i noTr)
variable {n : Nat} {w w' : World} {F : Nat → Prop} {xs ys : List TV} {ts us : List Tr}
theorem Els.append (h : Els n w F xs ts) (k : Els n w F ys us) : Els n w F (xs ++ ys) (ts ++ us) := by
 refine ⟨by simp [h.1, k.1], fun i hi => ?_⟩
 rw [List.length_append] at hi
 by_cases hx : i < xs.length
 ·have e1 : tvAt (xs ++ ys) i = tvAt xs i := by simp [tvAt, List.getD, List.getElem?_append_left hx]
  have e2 : (ts ++ us).getD i noTr = ts.getD i noTr := by simp [List.getD, List.getElem?_append_left (h.1 ▸ hx : i < ts.length)]
  rw [e1, e2]
  exact h.2 i hx
 ·have e1 : tvAt (xs ++ ys) i = tvAt ys (i - xs.length) := by simp [tvAt, List.getD, List.getElem?_append_right (Nat.le_of_not_lt hx)]
  have e2 : (ts ++ us).getD i noTr = us.getD (i - xs.length) noTr := by simp [List.getD, List.getElem?_append_right (h.1 ▸ (Nat.le_of_not_lt hx) : ts.length ≤ i), h.1]
  rw [e1, e2]
  exact k.2 _ (by omega)
theorem Els.take (h : Els n w F xs ts) (k : Nat) : Els n w F (xs.take k) (ts.take k) := by
 refine ⟨by simp [h.1], fun i hi => ?_⟩
 rw [List.length_take] at hi
 have e1 : tvAt (xs.take k) i = tvAt xs i := by simp [tvAt, List.getD, show i < k by omega]
 have e2 : (ts.take k).getD i noTr = ts.getD i noTr := by simp [List.getD, show i < k by omega]
 rw [e1, e2]
 exact h.2 i (by omega)
theorem Els.drop (h : Els n w F xs ts) (k : Nat) : Els n w F (xs.drop k) (ts.drop k) := by
 refine ⟨by simp [h.1], fun i hi => ?_⟩
 rw [List.length_drop] at hi
 have e1 : tvAt (xs.drop k) i = tvAt xs (k + i) := by simp [tvAt, List.getD]
 have e2 : (ts.drop k).getD i noTr = ts.getD (k + i) noTr := by simp [List.getD]
 rw [e1, e2]
 exact h.2 _ (by omega)
theorem Els.below (h : Els n w F xs ts) (hb : Below w.heap.size w w') : Els n w' F xs ts := ⟨h.1, fun i hi => (h.2 i hi).below hb⟩
theorem Els.mono {G : Nat → Prop} (h : Els n w F xs ts) (k : ∀ g, F g → G g) : Els n w G xs ts := ⟨h.1, fun i hi => (h.2 i hi).mono k⟩
theorem TreesF.els {v : Value} (h : TreesF n w F v ts) : ∃ xs, Els n w F xs ts ∧ RowF w F v ts.length (flatT xs) := by
 obtain ⟨xs, h1, h2, h3⟩ := h
 rw [h1] at h2
 exact ⟨xs, ⟨h1, h3⟩, h2⟩
theorem Els.trees {v : Value} (h : Els n w F xs ts) (hr : RowF w F v xs.length (flatT xs)) : TreesF n w F v ts := ⟨xs, h.1, hr, h.2⟩
theorem TreesF.lt {v : Value} (h : TreesF n w F v ts) : TreesF n w (fun g => F g ∧ g < w.heap.size) v ts := by
 obtain ⟨xs, h1, h2, h3⟩ := h
 exact ⟨xs, h1, h2.lt (flatT_ne _).2, fun i hi => (h3 i hi).lt⟩
theorem TreesF.frame {v : Value} (h : TreesF n w F v ts) (hf : ∀ g, F g → g < w.heap.size → w'.heap[g]? = w.heap[g]?) : TreesF n w' F v ts := by
 obtain ⟨xs, h1, h2, h3⟩ := h
 exact ⟨xs, h1, h2.frame hf, fun i hi => (h3 i hi).frame hf⟩

theorem l4Put_any (d : Nat) (F : Nat → Prop) (vt vc ut uc : Value) (m x : TM) (i : Nat) (w : World) (ht : TreesF d w F vt m.1) (hc : RowF w F vc m.2.length (flatI m.2)) (hu : TreesF d w F ut x.1) (hd : RowF w F uc x.2.length (flatI x.2))
  (hm : m.2.length + 1 = m.1.length) (h2 : 2 ≤ m.1.length) (hi : i < m.1.length) (hn : m.1.length ≤ 1048576) (hx : x.1.length ≤ 1048576) (hx2 : x.2.length ≤ 1048576) :
  Calls Try.prog 63 #[.agg #[vt, vc], .int .i64 (i : Nat), .agg #[ut, uc]] w fun e w' => ∃ v1 v2, e = .returned (.agg #[v1, v2]) ∧ TreesF d w' (fun b => F b ∨ w.heap.size ≤ b) v1 (putM m i x).1 ∧ RowF w' (fun b => F b ∨ w.heap.size ≤ b) v2 (putM m i x).2.length (flatI (putM m i x).2) ∧ Below w.heap.size w w' := by
 obtain ⟨xs, ex, rx⟩ := ht.els
 obtain ⟨ys, ey, ry⟩ := hu.els
 have gx := flatT_oneF ex.2
 have gy := flatT_oneF ey.2
 rw [← ex.1] at rx
 rw [← ey.1] at ry
 have qx := rx.row
 have qy := ry.row
 have qc := hc.row
 have qd := hd.row
 obtain ⟨av, b1, o1, c1, rfl, _, _, ha1, _⟩ := rx.row
 obtain ⟨bv, b2, o2, c2, rfl, _, _, ha2, _⟩ := hc.row
 obtain ⟨a5, b5, o5, c5, rfl, _⟩ := ry.row
 obtain ⟨a6, b6, o6, c6, rfl, _⟩ := hd.row
 have hx1 := ex.1
 have hy1 := ey.1
 have := ha1 (by omega)
 subst this
 have := ha2 (by omega)
 subst this
 refine (l4Put_rows b1 o1 c1 b2 o2 c2 a5 c5 a6 c6 xs ys m.2 x.2 i w qx qc qy qd (by omega) (by omega) (by omega) (by omega) (by omega) hx2 gx gy).mono ?_
 rintro e w' ⟨v1, v2, rfl, O1, O2, hb⟩
 refine ⟨v1, v2, rfl, ?_, ?_, hb⟩
 ·have el := ((ex.take i).append ey).append (ex.drop (i + 1))
  have el' : Els d w' (fun b => F b ∨ w.heap.size ≤ b) (xs.take i ++ ys ++ xs.drop (i + 1)) (putM m i x).1 := (el.below hb).mono fun g hg => .inl hg
  exact el'.trees (O1.rowF.mono fun g hg => .inr (O1.lt g hg).1)
 ·exact O2.rowF.mono fun g hg => .inr (O2.lt g hg).1

theorem off_app_t {G : Nat → Prop} {s e sz k : Nat} {vt vc vt' : Value} {l : List Value} (a : AppTo w s e sz vt k l vt' w') : (∀ g, offB G vt vc g ∧ g < w.heap.size → offB G vt' vc g) ∧ ∀ g, offB G vt vc g → ¬ wrB vt g :=
 ⟨fun g hg => ⟨hg.1.1, fun h => (a.2.2.2 g h).elim hg.1.2.1 (fun h => by omega), hg.1.2.2⟩, fun _ hg => hg.2.1⟩
theorem off_app_c {G : Nat → Prop} {s e sz k : Nat} {vt vc vc' : Value} {l : List Value} (a : AppTo w s e sz vc k l vc' w') : (∀ g, offB G vt vc g ∧ g < w.heap.size → offB G vt vc' g) ∧ ∀ g, offB G vt vc g → ¬ wrB vc g :=
 ⟨fun g hg => ⟨hg.1.1, hg.1.2.1, fun h => (a.2.2.2 g h).elim hg.1.2.2 (fun h => by omega)⟩, fun _ hg => hg.2.2⟩
theorem TreesF.off {P : Nat → Prop} {G' : Nat → Prop} {v : Value} (h : TreesF n w F v ts) (hc : Chg P w w') (hp : ∀ g, F g → ¬ P g) (hm : ∀ g, F g ∧ g < w.heap.size → G' g) : TreesF n w' G' v ts := ((h.lt).chg hc (fun g hg => hp g hg.1)).mono hm
theorem RowF.off {P : Nat → Prop} {G' : Nat → Prop} {v : Value} {k : Nat} {l : List Value} (h : RowF w F v k l) (hx : 0 < k → l ≠ []) (hc : Chg P w w') (hp : ∀ g, F g → ¬ P g) (hm : ∀ g, F g ∧ g < w.heap.size → G' g) : RowF w' G' v k l := ((h.lt hx).chg hc (fun g hg => hp g hg.1)).mono hm
end
section
open Go.RowKit

theorem OwnE.frame {w w' : World} {base e size n : Nat} {v : Value} {xs : List Value} (h : OwnE w base e size v n xs) (hf : ∀ g, wrB v g → g < w.heap.size → w'.heap[g]? = w.heap[g]?) : OwnE w' base e size v n xs := by
 rcases h with h | h
 ·obtain ⟨hl, h | ⟨g, cap, cur, rfl, hg, hh, hn, hcap, hsz, htake⟩⟩ := h
  ·exact .inl ⟨hl, .inl h⟩
  ·rcases Nat.eq_zero_or_pos cap with h1 | h1
   ·subst h1
    have : n = 0 := by omega
    subst this
    exact .inr ⟨rfl, List.length_eq_zero_iff.1 (by omega), g, rfl⟩
   ·exact .inl ⟨hl, .inr ⟨g, cap, cur, rfl, hg, (hf g ⟨_, _, rfl, h1⟩ (Array.getElem?_eq_some_iff.1 hh).1).trans hh, hn, hcap, hsz, htake⟩⟩
 ·exact .inr h

def TreeD : Nat → World → (Nat → Prop) → TV → Tr → Prop
 | 0, _, _, _, _ => False
 | n + 1, w, F, x, T => x.lf = T.leaf ∧ OwnE w 0 76 2 x.p T.pairs.length (flatP T.pairs) ∧ OwnE w 0 3 1 x.c T.cuts.length (flatI T.cuts) ∧ OwnE w 0 73 3 x.b T.buf.length (flatM T.buf) ∧
   (∀ g, wrB x.p g ∨ wrB x.c g ∨ wrB x.b g ∨ wrB x.k g → F g) ∧
   ∃ (xs : List TV) (K : Nat → Nat → Prop), xs.length = T.kids.length ∧ OwnE w 0 54 5 x.k xs.length (flatT xs) ∧
    (∀ i, i < xs.length → TreeD n w (K i) (tvAt xs i) (T.kids.getD i noTr)) ∧
    (∀ i g, i < xs.length → K i g → F g ∧ ¬ (wrB x.p g ∨ wrB x.c g ∨ wrB x.b g ∨ wrB x.k g)) ∧
    (∀ i j g, i < j → j < xs.length → K i g → ¬ K j g)

theorem TreeD.treeF : ∀ {n : Nat} {w : World} {F : Nat → Prop} {x : TV} {T : Tr}, TreeD n w F x T → TreeF n w F x T
 | 0, _, _, _, _, h => h.elim
 | n + 1, w, F, x, T, ⟨h1, h2, h3, h4, h5, xs, K, k1, k2, k3, k4, k5⟩ => by
  refine TreeF.mk h1 (h2.rowF.mono (fun g hg => h5 g (.inl hg))) (h3.rowF.mono (fun g hg => h5 g (.inr (.inl hg)))) (h4.rowF.mono (fun g hg => h5 g (.inr (.inr (.inl hg))))) ⟨xs, k1, ?_, fun i hi => (k3 i hi).treeF.mono (fun g hg => (k4 i g hi hg).1)⟩
  have := k2.rowF.mono (G := F) (fun g hg => h5 g (.inr (.inr (.inr hg))))
  exact this
theorem TreeD.mono : ∀ {n : Nat} {w : World} {F G : Nat → Prop} {x : TV} {T : Tr}, TreeD n w F x T → (∀ g, F g → G g) → TreeD n w G x T
 | 0, _, _, _, _, _, h, _ => h.elim
 | _ + 1, _, _, _, _, _, ⟨h1, h2, h3, h4, h5, xs, K, k1, k2, k3, k4, k5⟩, hk => ⟨h1, h2, h3, h4, fun g hg => hk g (h5 g hg), xs, K, k1, k2, k3, fun i g hi hg => ⟨hk g (k4 i g hi hg).1, (k4 i g hi hg).2⟩, k5⟩
theorem TreeD.frame : ∀ {n : Nat} {w w' : World} {F : Nat → Prop} {x : TV} {T : Tr}, TreeD n w F x T → (∀ g, F g → g < w.heap.size → w'.heap[g]? = w.heap[g]?) → TreeD n w' F x T
 | 0, _, _, _, _, _, h, _ => h.elim
 | _ + 1, _, _, _, _, _, ⟨h1, h2, h3, h4, h5, xs, K, k1, k2, k3, k4, k5⟩, hf => ⟨h1, h2.frame (fun g hg => hf g (h5 g (.inl hg))), h3.frame (fun g hg => hf g (h5 g (.inr (.inl hg)))), h4.frame (fun g hg => hf g (h5 g (.inr (.inr (.inl hg))))), h5, xs, K, k1, k2.frame (fun g hg => hf g (h5 g (.inr (.inr (.inr hg))))), fun i hi => (k3 i hi).frame (fun g hg => hf g (k4 i g hi hg).1), k4, k5⟩
theorem TreeD.lt : ∀ {n : Nat} {w : World} {F : Nat → Prop} {x : TV} {T : Tr}, TreeD n w F x T → TreeD n w (fun g => F g ∧ g < w.heap.size) x T
 | 0, _, _, _, _, h => h.elim
 | _ + 1, _, _, _, _, ⟨h1, h2, h3, h4, h5, xs, K, k1, k2, k3, k4, k5⟩ => ⟨h1, h2, h3, h4, fun g hg => ⟨h5 g hg, by
   rcases hg with h | h | h | h
   ·exact (h2.lt g h).2
   ·exact (h3.lt g h).2
   ·exact (h4.lt g h).2
   ·exact (k2.lt g h).2⟩, xs, fun i g => K i g ∧ g < _, k1, k2, fun i hi => (k3 i hi).lt, fun i g hi hg => ⟨⟨(k4 i g hi hg.1).1, hg.2⟩, (k4 i g hi hg.1).2⟩, fun i j g hij hj hg hg' => k5 i j g hij hj hg.1 hg'.1⟩
theorem TreeD.chg {n : Nat} {w w' : World} {F P : Nat → Prop} {x : TV} {T : Tr} (h : TreeD n w F x T) (hc : Chg P w w') (hd : ∀ g, F g → ¬ P g) : TreeD n w' F x T := h.frame fun g hg hl => hc.block g hl (hd g hg)
theorem TreeD.below {n : Nat} {w w' : World} {F : Nat → Prop} {x : TV} {T : Tr} (h : TreeD n w F x T) (hb : Below w.heap.size w w') : TreeD n w' F x T := h.frame fun g _ hl => hb.block g hl
theorem TreeD.up : ∀ {n : Nat} {w : World} {F : Nat → Prop} {x : TV} {T : Tr}, TreeD n w F x T → TreeD (n + 1) w F x T
 | 0, _, _, _, _, h => h.elim
 | _ + 1, _, _, _, _, ⟨h1, h2, h3, h4, h5, xs, K, k1, k2, k3, k4, k5⟩ => ⟨h1, h2, h3, h4, h5, xs, K, k1, k2, fun i hi => (k3 i hi).up, k4, k5⟩
theorem TreeD.le {n m : Nat} {w : World} {F : Nat → Prop} {x : TV} {T : Tr} (h : TreeD n w F x T) (hm : n ≤ m) : TreeD m w F x T := by
 obtain ⟨k, rfl⟩ : ∃ k, m = n + k := ⟨m - n, by omega⟩
 clear hm
 induction k with
 | zero => exact h
 | succ k ih => exact ih.up
end
section
open Go.RowKit

theorem step_func {P : Program} {ops : Array Oper} {o : Oper} {a : Act} {K : Act → World → Prop} {Q : Exit → Act → World → Prop} {E : Prop} {w : World} {R : Ending → World → Prop} (hgd : o.guard = none) (f : FuncId) (xs : List Operand) (ats : Array TypeId)
  (ho : o.op = .call { callee := .value (.func f), args := xs.toArray, argTypes := ats }) (hrun : ∀ args w, (callFunc f args).run P w = .ok (.enter f args) w) (args : List Value) (he : xs.map a.eval = args)
  (h : Calls P f args.toArray w R) (hk : ∀ e w', R e w' → ∃ v, e = .returned v ∧ K (a.put o.dst v) w') :
  if Region.wanted o (yielded ops a.tmps) = true then Oper.wp P o a w K Q else E := by
 have hw : Region.wanted o (yielded ops a.tmps) = true := by simp [Region.wanted, hgd]
 rw [if_pos hw]
 have ef : a.eval (.func f) = .func (.func f) #[] #[] := rfl
 have hx : execOp a.eval o = callFunc f args.toArray := by
  unfold execOp
  simp [ho, resolve, Deferred.ofValue, invoke, ef, he]
 unfold Oper.wp
 rw [hx, hrun, Oper.upon_enter]
 refine Calls.mono h ?_
 intro e w' hr
 obtain ⟨v, rfl, hk⟩ := hk e w' hr
 exact hk

theorem run50 (args : Array Value) (w : World) : (callFunc 50 args).run Try.prog w = .ok (.enter 50 args) w := by go_simp
theorem run49 (args : Array Value) (w : World) : (callFunc 49 args).run Try.prog w = .ok (.enter 49 args) w := by go_simp
theorem run35 (args : Array Value) (w : World) : (callFunc 35 args).run Try.prog w = .ok (.enter 35 args) w := by go_simp
theorem run40 (args : Array Value) (w : World) : (callFunc 40 args).run Try.prog w = .ok (.enter 40 args) w := by go_simp
theorem run41 (args : Array Value) (w : World) : (callFunc 41 args).run Try.prog w = .ok (.enter 41 args) w := by go_simp
end
section
open Go.RowKit

def bytesOf (s : ByteArray) : List Int := s.data.toList.map fun b => (b.toNat : Int)
theorem bytesOf_length (s : ByteArray) : (bytesOf s).length = s.size := by
 rw [bytesOf, List.length_map, Array.length_toList]
 rfl
theorem bytesOf_in (s : ByteArray) : inByte (bytesOf s) := by
 intro b hb
 simp only [bytesOf, List.mem_map] at hb
 obtain ⟨x, _, rfl⟩ := hb
 have := x.toNat_lt
 omega
def pgB (l : List ByteArray) : List (List Int) := l.map bytesOf
theorem row_bytes (w : World) (e : TypeId) (s : ByteArray) (hs : s.size ≤ maxLen) :
  Row (Go.Lib.bytesWorld w e s) (.slice (some ⟨w.heap.size, 0, none⟩) s.size (grownCap w s.size 0 e)) (bytesOf s).length (flatB (bytesOf s)) := by
 rw [bytesOf_length]
 refine ⟨some ⟨w.heap.size, 0, none⟩, w.heap.size, 0, grownCap w s.size 0 e, rfl, grownCap_ge _ _ _ _, grownCap_le_maxLen _ _ _ _ hs, fun _ => rfl, fun j u hj => ?_, fun h => by cases h⟩
 have hl : j < s.size := by
  have := (List.getElem?_eq_some_iff.1 hj).1
  rw [flatB_length, bytesOf_length] at this
  exact this
 have e0 : s.data[j]? = some (s.data[j]'hl) := Array.getElem?_eq_getElem hl
 rw [Nat.zero_add, Go.Lib.bytesWorld_cell w e s j hl, ← hj]
 simp [flatB, bytesOf, List.getD, e0]
theorem bel_bytes (w : World) (e : TypeId) (s : ByteArray) : Below w.heap.size w (Go.Lib.bytesWorld w e s) :=
 ⟨rfl, rfl, rfl, by rw [Go.Lib.bytesWorld_size]; omega, fun k hk => Go.Lib.bytesWorld_at_old w e s k hk⟩
end
section
open Go.RowKit

def Cur (w : World) (C : Nat) : Prop :=
 ∃ (a : Option Addr) (n cap b off : Nat) (bs : List Int) (i : Nat) (h : Int), w.heap[C]? = some (.cells #[.slice a n cap, .int .i64 i, .int .i64 h] 62 (0, 0)) ∧ n ≤ 1048576 ∧ i ≤ n ∧ (0 < n → a = some ⟨b, off, none⟩ ∧ b < C) ∧
  (∀ j, j < n → w.cell? ⟨b, off + j, none⟩ = some (.int .u8 (bs.getD j 0))) ∧ (∀ j, 0 ≤ bs.getD j 0 ∧ bs.getD j 0 ≤ 255)

theorem cell_chg {F : Nat → Prop} {w w' : World} {b o : Nat} {v : Value} (h : w.cell? ⟨b, o, none⟩ = some v) (hc : Chg F w w') (hF : ¬ F b) : w'.cell? ⟨b, o, none⟩ = some v := by
 rw [← h]; exact World.cell?_of_block (hc.block b (cell_lt h) hF)
theorem Cur.chg {F : Nat → Prop} {w w' : World} {C : Nat} (h : Cur w C) (hc : Chg F w w') (hF : ∀ g, F g → C < g) : Cur w' C := by
 obtain ⟨a, n, cap, b, off, bs, i, h, h1, h2, h3, h4, h5, h6⟩ := h
 refine ⟨a, n, cap, b, off, bs, i, h, row_chg h1 hc (fun e => Nat.lt_irrefl _ (hF _ e)), h2, h3, h4, fun j hj => cell_chg (h5 j hj) hc (fun e => ?_), h6⟩
 have := hF _ e
 have := (h4 (by omega)).2
 omega
theorem Cur.below {w w' : World} {C : Nat} (h : Cur w C) (hb : Below w.heap.size w w') : Cur w' C := h.chg (Chg.of_below (F := fun _ => False) hb) (fun _ e => e.elim)

theorem and255 (n : Int) : bits .and .i64 n 255 = n % 256 := by
 have h255 : (BitVec.ofInt 64 255).toNat = 2 ^ 8 - 1 := by decide
 have key : (BitVec.ofInt 64 n &&& BitVec.ofInt 64 255).toNat = (n % ((2 ^ 64 : Nat) : Int)).toNat % 2 ^ 8 := by
  rw [BitVec.toNat_and, BitVec.toNat_ofInt, h255, Nat.and_two_pow_sub_one_eq_mod]
 show IntKind.i64.wrap ((BitVec.ofInt 64 n &&& BitVec.ofInt 64 255).toNat : Nat) = n % 256
 rw [key, IntKind.wrap_i64]
 omega
theorem and255_in (n : Int) : 0 ≤ bits .and .i64 n 255 ∧ bits .and .i64 n 255 ≤ 255 := by rw [and255]; omega

theorem Cur.store2 {w : World} {C : Nat} (h : Cur w C) (x : Int) (q : Nat) : Cur ((w.setCell ⟨C, 2, none⟩ (.int .i64 x)).drewN q) C ∧ Chg (fun g => g = C) w ((w.setCell ⟨C, 2, none⟩ (.int .i64 x)).drewN q) := by
 obtain ⟨a, n, cap, b, off, bs, i, h, h1, h2, h3, h4, h5, h6⟩ := h
 have hc : Chg (fun g => g = C) w (w.setCell ⟨C, 2, none⟩ (.int .i64 x)) := Chg.setAt (F := fun g => g = C) (Chg.refl _ _) _ _ rfl _
 refine ⟨⟨a, n, cap, b, off, bs, i, x, ?_, h2, h3, h4, fun j hj => ?_, h6⟩, hc.drewN q⟩
 ·exact heap_setCell_same w C 2 _ 62 (.int .i64 x) h1
 ·have := h5 j hj
  rw [← this]
  exact World.cell?_of_block (hc.block b (cell_lt this) (Nat.ne_of_lt (h4 (by omega)).2))
theorem Cur.store1 {w : World} {C : Nat} (h : Cur w C) {i : Nat} (hi : w.cell? ⟨C, 1, none⟩ = some (.int .i64 i)) (hlt : ∀ a n cap, w.cell? ⟨C, 0, none⟩ = some (.slice a n cap) → i < n) :
  Cur (w.setCell ⟨C, 1, none⟩ (.int .i64 (i + 1))) C ∧ Chg (fun g => g = C) w (w.setCell ⟨C, 1, none⟩ (.int .i64 (i + 1))) := by
 obtain ⟨a, n, cap, b, off, bs, i', h, h1, h2, h3, h4, h5, h6⟩ := h
 have hii : i' = i := by
  rw [cell_of_cells h1] at hi
  simp at hi
  omega
 subst hii
 have hn := hlt a n cap (by rw [cell_of_cells h1]; rfl)
 have hc : Chg (fun g => g = C) w (w.setCell ⟨C, 1, none⟩ (.int .i64 (i' + 1))) := Chg.setAt (F := fun g => g = C) (Chg.refl _ _) _ _ rfl _
 refine ⟨⟨a, n, cap, b, off, bs, i' + 1, h, ?_, h2, by omega, h4, fun j hj => ?_, h6⟩, hc⟩
 ·exact heap_setCell_same w C 1 _ 62 (.int .i64 (i' + 1)) h1
 ·have := h5 j hj
  rw [← this]
  exact World.cell?_of_block (hc.block b (cell_lt this) (Nat.ne_of_lt (h4 (by omega)).2))

theorem l1Byte_any (C : Nat) (w : World) (hc : Cur w C) :
  Calls Try.prog 24 #[.pointer (some ⟨C, 0, none⟩)] w fun e w' => ∃ x : Int, e = .returned (.int .i64 x) ∧ 0 ≤ x ∧ x ≤ 255 ∧ Cur w' C ∧ Chg (fun g => g = C) w w' := by
 have CU : Hid (Cur w C) := hc
 obtain ⟨a, n, cap, b, off, bs, i, h, h1, h2, h3, h4, h5, h6⟩ := hc
 have c0 : w.cell? ⟨C, 0, none⟩ = some (.slice a n cap) := by rw [cell_of_cells h1]; rfl
 have c1 : w.cell? ⟨C, 1, none⟩ = some (.int .i64 i) := by rw [cell_of_cells h1]; rfl
 have c2 : w.cell? ⟨C, 2, none⟩ = some (.int .i64 h) := by rw [cell_of_cells h1]; rfl
 have f1 : w.frozen? ⟨C, 1, none⟩ = false := frozen_of_cells h1
 have f2 : w.frozen? ⟨C, 2, none⟩ = false := frozen_of_cells h1
 have FIN1 : Hid (∀ H Q, Cur ((w.setCell ⟨C, 2, none⟩ (.int .i64 H)).drewN Q) C ∧ Chg (fun g => g = C) w ((w.setCell ⟨C, 2, none⟩ (.int .i64 H)).drewN Q)) := fun H Q => CU.out.store2 H Q
 have FIN2 : Hid (i < n → ∀ H Q, Cur (((w.setCell ⟨C, 2, none⟩ (.int .i64 H)).drewN Q).setCell ⟨C, 1, none⟩ (.int .i64 (i + 1))) C ∧ Chg (fun g => g = C) w (((w.setCell ⟨C, 2, none⟩ (.int .i64 H)).drewN Q).setCell ⟨C, 1, none⟩ (.int .i64 (i + 1)))) := by
  intro hin H Q
  obtain ⟨r1, r2⟩ := CU.out.store2 H Q
  have hh : ((w.setCell ⟨C, 2, none⟩ (.int .i64 H)).drewN Q).heap[C]? = some (.cells #[.slice a n cap, .int .i64 i, .int .i64 H] 62 (0, 0)) := heap_setCell_same w C 2 _ 62 (.int .i64 H) h1
  obtain ⟨q1, q2⟩ := r1.store1 (i := i) (by rw [cell_of_cells hh]; rfl) (fun a' n' cap' he => by rw [cell_of_cells hh] at he; simp at he; omega)
  exact ⟨q1, r2.trans q2 (fun _ _ e => e)⟩
 clear h1
 by_cases hin : i < n
 ·obtain ⟨ha, hbC⟩ := h4 (by omega)
  subst ha
  have d0 := h5 i hin
  obtain ⟨hb0, hb1⟩ := h6 i
  generalize bs.getD i 0 = y at *
  have hin' : (i : Int) < (n : Int) := by omega
  have hdec : decide ((i : Int) < (n : Int)) = true := by simpa using hin
  clear h4 h5 h6
  go_enter Try.func24, Try.ntmps24
  go_wp2
  go_quiet (fail)
  generalize hH : wrap64 (wrap64 (h * 6364136223846793005) + 1442695040888963407) = H
  clear hH
  have hx := and255_in (bits BinOp.xor IntKind.i64 (H / 8589934592) (H / 35184372088832))
  generalize bits BinOp.and IntKind.i64 (bits BinOp.xor IntKind.i64 (H / 8589934592) (H / 35184372088832)) 255 = x0 at *
  obtain ⟨hx0, hx1⟩ := hx
  have e0 : (w.setCell ⟨C, 2, none⟩ (.int .i64 H)).cell? ⟨b, off + i, none⟩ = some (.int .u8 y) := by
   rw [← d0]; exact World.cell?_of_block (heap_setCell_other _ _ _ _ (Nat.ne_of_lt hbC))
  go_wp2
  go_quiet (fail)
  go_wp2
  go_quiet (fail)
  generalize hX : bits BinOp.and IntKind.i64 (x0 + y) 255 = x1
  have hx1' := and255_in (x0 + y)
  rw [hX] at hx1'
  clear hX
  go_wp2
  go_ret
  exact ⟨x1, rfl, hx1'.1, hx1'.2, (FIN2.out hin _ _).1, (FIN2.out hin _ _).2⟩
 ·have hin' : ¬ (i : Int) < (n : Int) := by omega
  have hdec : decide ((i : Int) < (n : Int)) = false := by simpa using hin
  clear h4 h5 h6
  go_enter Try.func24, Try.ntmps24
  go_wp2
  go_quiet (fail)
  generalize hH : wrap64 (wrap64 (h * 6364136223846793005) + 1442695040888963407) = H
  clear hH
  have hx := and255_in (bits BinOp.xor IntKind.i64 (H / 8589934592) (H / 35184372088832))
  generalize bits BinOp.and IntKind.i64 (bits BinOp.xor IntKind.i64 (H / 8589934592) (H / 35184372088832)) 255 = x0 at *
  obtain ⟨hx0, hx1⟩ := hx
  go_wp2
  go_quiet (fail)
  go_wp2
  go_ret
  exact ⟨x0, rfl, hx0, hx1, (FIN1.out _ _).1.below (below_drewN (Below.refl _ _) _), (FIN1.out _ _).2.drewN _⟩

theorem l1Below_any (C : Nat) (n : Int) (w : World) (hc : Cur w C) (hn : n ≤ 1000000000) :
  Calls Try.prog 18 #[.pointer (some ⟨C, 0, none⟩), .int .i64 n] w fun e w' => ∃ x : Int, e = .returned (.int .i64 x) ∧ 0 ≤ x ∧ (0 < n → x < n) ∧ (n ≤ 0 → x = 0) ∧ Cur w' C ∧ Chg (fun g => g = C) w w' := by
 by_cases h0 : n ≤ 0
 ·go_enter Try.func18, Try.ntmps18
  go_wp2
  go_ret
  exact ⟨0, rfl, by omega, by omega, fun _ => rfl, hc, Chg.refl _ _⟩
 ·by_cases h1 : n ≤ 256
  ·have CU : Hid (Cur w C) := hc
   clear hc
   go_enter Try.func18, Try.ntmps18
   go_wp2_with fail
   refine (l1Byte_any C _ CU.out).mono ?_
   rintro e w1 ⟨x, rfl, hx0, hx1, c1, g1⟩
   have FIN : Hid _ := And.intro c1 g1
   clear c1 g1
   have hnn : 0 < n := by omega
   go_wp2
   go_ret
   exact ⟨x % n, rfl, Int.emod_nonneg _ (by omega), fun _ => Int.emod_lt_of_pos _ hnn, by omega, FIN.out.1, FIN.out.2⟩
  ·have CU : Hid (Cur w C) := hc
   clear hc
   go_enter Try.func18, Try.ntmps18
   go_wp2_with fail
   refine (l1Byte_any C _ CU.out).mono ?_
   rintro e w1 ⟨x, rfl, hx0, hx1, c1, g1⟩
   have F1 : Hid _ := And.intro c1 g1
   clear c1 g1
   go_wp2_with fail
   refine (l1Byte_any C _ F1.out.1).mono ?_
   rintro e w2 ⟨y, rfl, hy0, hy1, c2, g2⟩
   have F2 : Hid _ := And.intro c2 (F1.out.2.trans g2 (fun _ _ e => e))
   clear c2 g2
   go_wp2_with fail
   refine (l1Byte_any C _ F2.out.1).mono ?_
   rintro e w3 ⟨z, rfl, hz0, hz1, c3, g3⟩
   have F3 : Hid _ := And.intro c3 (F2.out.2.trans g3 (fun _ _ e => e))
   clear c3 g3
   go_wp2_with fail
   refine (l1Byte_any C _ F3.out.1).mono ?_
   rintro e w4 ⟨u, rfl, hu0, hu1, c4, g4⟩
   have F4 : Hid _ := And.intro c4 (F3.out.2.trans g4 (fun _ _ e => e))
   clear c4 g4
   have hnn : 0 < n := by omega
   go_wp2
   go_ret
   exact ⟨(x * 16777216 + y * 65536 + z * 256 + u) % n, rfl, Int.emod_nonneg _ (by omega), fun _ => Int.emod_lt_of_pos _ hnn, by omega, F4.out.1, F4.out.2⟩

theorem l1Once_any (C : Nat) (n : Int) (w : World) (hc : Cur w C) (hn : n ≤ 1000000000) :
  Calls Try.prog 19 #[.pointer (some ⟨C, 0, none⟩), .int .i64 n] w fun e w' => ∃ x : Bool, e = .returned (.bool x) ∧ Cur w' C ∧ Chg (fun g => g = C) w w' := by
 go_enter Try.func19, Try.ntmps19
 go_wp2_with fail
 refine (l1Below_any C n _ hc hn).mono ?_
 rintro e w1 ⟨x, rfl, _, _, _, c1, g1⟩
 have F1 : Hid _ := And.intro c1 g1
 clear c1 g1
 go_wp2
 go_ret
 exact ⟨x == 0, rfl, F1.out.1, F1.out.2⟩

theorem l1PickInt_any (C : Nat) (b : Nat) (zs : List Int) (hz : 0 < zs.length) (hz2 : zs.length ≤ 1000) (w : World) (hc : Cur w C) (hb : w.heap[b]? = some (.cells (zs.map (Value.int .i64)).toArray 3 (0, 0))) (hbC : b ≠ C) :
  Calls Try.prog 22 #[.pointer (some ⟨C, 0, none⟩), .slice (some ⟨b, 0, none⟩) zs.length zs.length] w fun e w' => ∃ x : Int, e = .returned (.int .i64 x) ∧ x ∈ zs ∧ Cur w' C ∧ Chg (fun g => g = C) w w' := by
 have HB : Hid _ := hb
 clear hb
 go_enter Try.func22, Try.ntmps22
 go_wp2_with fail
 refine (l1Below_any C zs.length _ hc (by omega)).mono ?_
 rintro e w1 ⟨x, rfl, hx0, hx1, _, c1, g1⟩
 have hxl := hx1 (by omega)
 obtain ⟨i, rfl⟩ := Int.eq_ofNat_of_zero_le hx0
 have hi : i < zs.length := by omega
 have d0 : w1.cell? ⟨b, i, none⟩ = some (.int .i64 (zs.getD i 0)) := by
  refine cell_chg ?_ g1 hbC
  rw [cell_of_cells HB.out]
  simp [List.getD, hi]
 have hm : zs.getD i 0 ∈ zs := by
  rw [List.getD, List.getElem?_eq_getElem hi]; exact List.getElem_mem hi
 generalize zs.getD i 0 = y at *
 have F1 : Hid _ := And.intro hm (And.intro c1 g1)
 clear c1 g1 hm hx1
 go_wp2
 go_ret
 exact ⟨y, rfl, F1.out.1, F1.out.2.1, F1.out.2.2⟩
end
end Go.Proofs.Ytekcnibohikmdaa
