/-
  Rows of trees, piece by piece; the contract of the model's l4Put over trees.
-/
import Derived.Test.YtmpiijphpnjlnaaGreatPack
namespace Go.Proofs.YtmpiijphpnjlnaaGreat
open Go.RowKit

/-- the structs xs lead to the trees ts -/
def Els (n : Nat) (w : World) (F : Nat → Prop) (xs : List TV) (ts : List Tr) : Prop := xs.length = ts.length ∧ ∀ i, i < xs.length → TreeF n w F (tvAt xs i) (ts.getD i noTr)
variable {n : Nat} {w w' : World} {F : Nat → Prop} {xs ys : List TV} {ts us : List Tr}
theorem Els.append (h : Els n w F xs ts) (k : Els n w F ys us) : Els n w F (xs ++ ys) (ts ++ us) := by
  refine ⟨by simp [h.1, k.1], fun i hi => ?_⟩
  rw [List.length_append] at hi
  by_cases hx : i < xs.length
  · have e1 : tvAt (xs ++ ys) i = tvAt xs i := by simp [tvAt, List.getD, List.getElem?_append_left hx]
    have e2 : (ts ++ us).getD i noTr = ts.getD i noTr := by simp [List.getD, List.getElem?_append_left (h.1 ▸ hx : i < ts.length)]
    rw [e1, e2]
    exact h.2 i hx
  · have e1 : tvAt (xs ++ ys) i = tvAt ys (i - xs.length) := by simp [tvAt, List.getD, List.getElem?_append_right (Nat.le_of_not_lt hx)]
    have e2 : (ts ++ us).getD i noTr = us.getD (i - xs.length) noTr := by simp [List.getD, List.getElem?_append_right (h.1 ▸ (Nat.le_of_not_lt hx) : ts.length ≤ i), h.1]
    rw [e1, e2]
    exact k.2 _ (by omega)
theorem Els.take (h : Els n w F xs ts) (k : Nat) : Els n w F (xs.take k) (ts.take k) := by
  refine ⟨by simp [h.1], fun i hi => ?_⟩
  rw [List.length_take] at hi
  have e1 : tvAt (xs.take k) i = tvAt xs i := by simp [tvAt, List.getD, show i < k by omega]
  have e2 : (ts.take k).getD i noTr = ts.getD i noTr := by simp [List.getD, show i < k by omega]
  rw [e1, e2]
  exact h.2 i (by omega)
theorem Els.drop (h : Els n w F xs ts) (k : Nat) : Els n w F (xs.drop k) (ts.drop k) := by
  refine ⟨by simp [h.1], fun i hi => ?_⟩
  rw [List.length_drop] at hi
  have e1 : tvAt (xs.drop k) i = tvAt xs (k + i) := by simp [tvAt, List.getD]
  have e2 : (ts.drop k).getD i noTr = ts.getD (k + i) noTr := by simp [List.getD]
  rw [e1, e2]
  exact h.2 _ (by omega)
theorem Els.below (h : Els n w F xs ts) (hb : Below w.heap.size w w') : Els n w' F xs ts := ⟨h.1, fun i hi => (h.2 i hi).below hb⟩
theorem Els.mono {G : Nat → Prop} (h : Els n w F xs ts) (k : ∀ g, F g → G g) : Els n w G xs ts := ⟨h.1, fun i hi => (h.2 i hi).mono k⟩
theorem TreesF.els {v : Value} (h : TreesF n w F v ts) : ∃ xs, Els n w F xs ts ∧ RowF w F v ts.length (flatT xs) := by
  obtain ⟨xs, h1, h2, h3⟩ := h
  rw [h1] at h2
  exact ⟨xs, ⟨h1, h3⟩, h2⟩
theorem Els.trees {v : Value} (h : Els n w F xs ts) (hr : RowF w F v xs.length (flatT xs)) : TreesF n w F v ts := ⟨xs, h.1, hr, h.2⟩
theorem TreesF.lt {v : Value} (h : TreesF n w F v ts) : TreesF n w (fun g => F g ∧ g < w.heap.size) v ts := by
  obtain ⟨xs, h1, h2, h3⟩ := h
  exact ⟨xs, h1, h2.lt (flatT_ne _).2, fun i hi => (h3 i hi).lt⟩
theorem TreesF.frame {v : Value} (h : TreesF n w F v ts) (hf : ∀ g, F g → g < w.heap.size → w'.heap[g]? = w.heap[g]?) : TreesF n w' F v ts := by
  obtain ⟨xs, h1, h2, h3⟩ := h
  exact ⟨xs, h1, h2.frame hf, fun i hi => (h3 i hi).frame hf⟩

theorem l4Put_any (d : Nat) (F : Nat → Prop) (vt vc ut uc : Value) (m x : TM) (i : Nat) (w : World) (ht : TreesF d w F vt m.1) (hc : RowF w F vc m.2.length (flatI m.2)) (hu : TreesF d w F ut x.1) (hd : RowF w F uc x.2.length (flatI x.2))
    (hm : m.2.length + 1 = m.1.length) (h2 : 2 ≤ m.1.length) (hi : i < m.1.length) (hn : m.1.length ≤ 1048576) (hx : x.1.length ≤ 1048576) (hx2 : x.2.length ≤ 1048576) :
    Calls Tryz.prog 108 #[.agg #[vt, vc], .int .i64 (i : Nat), .agg #[ut, uc]] w fun e w' => ∃ v1 v2, e = .returned (.agg #[v1, v2]) ∧ TreesF d w' (fun b => F b ∨ w.heap.size ≤ b) v1 (putM m i x).1 ∧ RowF w' (fun b => F b ∨ w.heap.size ≤ b) v2 (putM m i x).2.length (flatI (putM m i x).2) ∧ Below w.heap.size w w' := by
  obtain ⟨xs, ex, rx⟩ := ht.els
  obtain ⟨ys, ey, ry⟩ := hu.els
  have gx := flatT_oneF ex.2
  have gy := flatT_oneF ey.2
  rw [← ex.1] at rx
  rw [← ey.1] at ry
  have qx := rx.row
  have qy := ry.row
  have qc := hc.row
  have qd := hd.row
  obtain ⟨av, b1, o1, c1, rfl, _, _, ha1, _⟩ := rx.row
  obtain ⟨bv, b2, o2, c2, rfl, _, _, ha2, _⟩ := hc.row
  obtain ⟨a5, b5, o5, c5, rfl, _⟩ := ry.row
  obtain ⟨a6, b6, o6, c6, rfl, _⟩ := hd.row
  have hx1 := ex.1
  have hy1 := ey.1
  have := ha1 (by omega)
  subst this
  have := ha2 (by omega)
  subst this
  refine (l4Put_rows b1 o1 c1 b2 o2 c2 a5 c5 a6 c6 xs ys m.2 x.2 i w qx qc qy qd (by omega) (by omega) (by omega) (by omega) (by omega) hx2 gx gy).mono ?_
  rintro e w' ⟨v1, v2, rfl, O1, O2, hb⟩
  refine ⟨v1, v2, rfl, ?_, ?_, hb⟩
  · have el := ((ex.take i).append ey).append (ex.drop (i + 1))
    have el' : Els d w' (fun b => F b ∨ w.heap.size ≤ b) (xs.take i ++ ys ++ xs.drop (i + 1)) (putM m i x).1 := (el.below hb).mono fun g hg => .inl hg
    exact el'.trees (O1.rowF.mono fun g hg => .inr (O1.lt g hg).1)
  · exact O2.rowF.mono fun g hg => .inr (O2.lt g hg).1

/-- what lies off the rows stays so, when one of them is appended to -/
theorem off_app_t {G : Nat → Prop} {s e sz k : Nat} {vt vc vt' : Value} {l : List Value} (a : AppTo w s e sz vt k l vt' w') : (∀ g, offB G vt vc g ∧ g < w.heap.size → offB G vt' vc g) ∧ ∀ g, offB G vt vc g → ¬ wrB vt g :=
  ⟨fun g hg => ⟨hg.1.1, fun h => (a.2.2.2 g h).elim hg.1.2.1 (fun h => by omega), hg.1.2.2⟩, fun _ hg => hg.2.1⟩
theorem off_app_c {G : Nat → Prop} {s e sz k : Nat} {vt vc vc' : Value} {l : List Value} (a : AppTo w s e sz vc k l vc' w') : (∀ g, offB G vt vc g ∧ g < w.heap.size → offB G vt vc' g) ∧ ∀ g, offB G vt vc g → ¬ wrB vc g :=
  ⟨fun g hg => ⟨hg.1.1, hg.1.2.1, fun h => (a.2.2.2 g h).elim hg.1.2.2 (fun h => by omega)⟩, fun _ hg => hg.2.2⟩
theorem TreesF.off {P : Nat → Prop} {G' : Nat → Prop} {v : Value} (h : TreesF n w F v ts) (hc : Chg P w w') (hp : ∀ g, F g → ¬ P g) (hm : ∀ g, F g ∧ g < w.heap.size → G' g) : TreesF n w' G' v ts := ((h.lt).chg hc (fun g hg => hp g hg.1)).mono hm
theorem RowF.off {P : Nat → Prop} {G' : Nat → Prop} {v : Value} {k : Nat} {l : List Value} (h : RowF w F v k l) (hx : 0 < k → l ≠ []) (hc : Chg P w w') (hp : ∀ g, F g → ¬ P g) (hm : ∀ g, F g ∧ g < w.heap.size → G' g) : RowF w' G' v k l := ((h.lt hx).chg hc (fun g hg => hp g hg.1)).mono hm

end Go.Proofs.YtmpiijphpnjlnaaGreat
