/-
  Trees side by side that are being put together: the row of trees and the row of cuts are one's own, the trees lie elsewhere.
  The contract of the model's l4Leaf.
-/
import Derived.Test.YtekcnibohikmdaaOfWrites20
import Derived.Test.YtekcnibohikmdaaOfWrites10
namespace Go.Proofs.Ytekcnibohikmdaa
set_option maxRecDepth 100000
set_option maxHeartbeats 8000000
section
open Go.RowKit

abbrev offB (G : Nat → Prop) (vt vc : Value) (b : Nat) : Prop := G b ∧ ¬ wrB vt b ∧ ¬ wrB vc b
def OutM (n s : Nat) (G : Nat → Prop) (w : World) (vt vc : Value) (ts : List Tr) (cs : List Int) : Prop :=
 ∃ xs : List TV, xs.length = ts.length ∧ OwnE w s 54 5 vt xs.length (flatT xs) ∧ OwnE w s 3 1 vc cs.length (flatI cs) ∧ (∀ g, wrB vt g → ¬ wrB vc g) ∧
  ∀ i, i < xs.length → TreeF n w (offB G vt vc) (tvAt xs i) (ts.getD i noTr)

variable {n s : Nat} {G : Nat → Prop} {w w' : World} {vt vc vt' vc' : Value} {ts us : List Tr} {cs : List Int}

theorem OutM.nil (n s : Nat) (G : Nat → Prop) (w : World) : OutM n s G w (.slice none 0 0) (.slice none 0 0) [] [] :=
 ⟨[], rfl, OwnE.nil _ _ _ _, OwnE.nil _ _ _ _, fun g h => absurd h (wrB_nil g), fun i hi => by simp at hi⟩
theorem OutM.shape (h : OutM n s G w vt vc ts cs) : ∃ (a : Option Addr) (q : Nat) (a' : Option Addr) (q' : Nat), vt = .slice a ts.length q ∧ vc = .slice a' cs.length q' := by
 obtain ⟨xs, h1, h2, h3, _⟩ := h
 obtain ⟨a, q, e⟩ := h2.slice
 obtain ⟨a', q', e'⟩ := h3.slice
 rw [h1] at e
 exact ⟨a, q, a', q', e, e'⟩
theorem OutM.chg {p : Nat → Prop} (h : OutM n s G w vt vc ts cs) (hc : Chg p w w') (hp : ∀ g, p g → ¬ G g ∧ g < s) : OutM n s G w' vt vc ts cs := by
 obtain ⟨xs, h1, h2, h3, h4, h5⟩ := h
 refine ⟨xs, h1, h2.chg hc (fun g hg k => ?_), h3.chg hc (fun g hg k => ?_), h4, fun i hi => (h5 i hi).chg hc (fun g hg k => (hp g k).1 hg.1)⟩
 ·have := (h2.lt g hg).1
  have := (hp g k).2
  omega
 ·have := (h3.lt g hg).1
  have := (hp g k).2
  omega
theorem OutM.below (h : OutM n s G w vt vc ts cs) (hb : Below w.heap.size w w') : OutM n s G w' vt vc ts cs :=
 h.chg (Chg.of_below (F := fun _ => False) hb) (fun _ h => h.elim)
theorem OutM.alloc (h : OutM n s G w vt vc ts cs) (o : Obj) : OutM n s G (w.alloc o) vt vc ts cs := h.below (al1 w o)
theorem OutM.drew (h : OutM n s G w vt vc ts cs) : OutM n s G w.drew vt vc ts cs := h.below (Below.refl _ _).drew
theorem OutM.rowC (h : OutM n s G w vt vc ts cs) : OwnE w s 3 1 vc cs.length (flatI cs) := by
 obtain ⟨xs, h1, h2, h3, _⟩ := h
 exact h3
theorem OutM.addC (h : OutM n s G w vt vc ts cs) {ds : List Int} (a : AppTo w s 3 1 vc (cs.length + ds.length) (flatI cs ++ flatI ds) vc' w') : OutM n s G w' vt vc' ts (cs ++ ds) := by
 obtain ⟨xs, h1, h2, h3, h4, h5⟩ := h
 obtain ⟨a1, a2, a3, a4⟩ := a
 refine ⟨xs, h1, h2.chg a2 (fun g hg k => h4 g hg k), by rw [List.length_append, flatI_append]; exact a1, fun g hg k => ?_, fun i hi => ?_⟩
 ·rcases a4 g k with k | k
  ·exact h4 g hg k
  ·have := (h2.lt g hg).2
   omega
 ·have := ((h5 i hi).lt).chg a2 (fun g hg k => hg.1.2.2 k)
  refine this.mono fun g hg => ⟨hg.1.1, hg.1.2.1, fun k => ?_⟩
  rcases a4 g k with k | k
  ·exact hg.1.2.2 k
  ·have := hg.2
   omega
theorem OutM.addT (h : OutM n s G w vt vc ts cs) {ys : List TV} {m : Nat} (hm : m = ys.length) (hl : ys.length = us.length) (he : ∀ i, i < ys.length → TreeF n w (offB G vt vc) (tvAt ys i) (us.getD i noTr))
  {xs : List TV} (hx : xs.length = ts.length) (hx3 : ∀ i, i < xs.length → TreeF n w (offB G vt vc) (tvAt xs i) (ts.getD i noTr))
  (a : AppTo w s 54 5 vt (xs.length + m) (flatT xs ++ flatT ys) vt' w') : OutM n s G w' vt' vc (ts ++ us) cs := by
 subst hm
 obtain ⟨_, _, _, h3, h4, _⟩ := h
 obtain ⟨a1, a2, a3, a4⟩ := a
 refine ⟨xs ++ ys, by simp [hx, hl], by rw [List.length_append, flatT_append]; exact a1, h3.chg a2 (fun g hg k => h4 g k hg), fun g hg k => ?_, fun i hi => ?_⟩
 ·rcases a4 g hg with hg | hg
  ·exact h4 g hg k
  ·have := (h3.lt g k).2
   omega
 ·have key : ∀ {x : TV} {T : Tr}, TreeF n w (offB G vt vc) x T → TreeF n w' (offB G vt' vc) x T := fun t => by
   refine ((t.lt).chg a2 (fun g hg k => hg.1.2.1 k)).mono fun g hg => ⟨hg.1.1, fun k => ?_, hg.1.2.2⟩
   rcases a4 g k with k | k
   ·exact hg.1.2.1 k
   ·have := hg.2
    omega
  rw [List.length_append] at hi
  by_cases hxi : i < xs.length
  ·have e1 : tvAt (xs ++ ys) i = tvAt xs i := by simp [tvAt, List.getD, List.getElem?_append_left hxi]
   have e2 : (ts ++ us).getD i noTr = ts.getD i noTr := by simp [List.getD, List.getElem?_append_left (hx ▸ hxi : i < ts.length)]
   rw [e1, e2]
   exact key (hx3 i hxi)
  ·have e1 : tvAt (xs ++ ys) i = tvAt ys (i - xs.length) := by simp [tvAt, List.getD, List.getElem?_append_right (Nat.le_of_not_lt hxi)]
   have e2 : (ts ++ us).getD i noTr = us.getD (i - xs.length) noTr := by simp [List.getD, List.getElem?_append_right (hx ▸ (Nat.le_of_not_lt hxi) : ts.length ≤ i), hx]
   rw [e1, e2]
   exact key (he _ (by omega))
theorem OutM.trees (h : OutM n s G w vt vc ts cs) (hG : ∀ g, s ≤ g → G g) : TreesF n w G vt ts ∧ RowF w G vc cs.length (flatI cs) := by
 obtain ⟨xs, h1, h2, h3, h4, h5⟩ := h
 exact ⟨⟨xs, h1, (h2.rowF).mono (fun g hg => hG g (h2.lt g hg).1), fun i hi => (h5 i hi).mono fun g hg => hg.1⟩, (h3.rowF).mono (fun g hg => hG g (h3.lt g hg).1)⟩

theorem tv_one {a1 a2 a3 a4 : Option Addr} {l : Bool} {n1 n2 n3 n4 q1 q2 q3 q4 : Nat} : ∀ y ∈ [Value.bool l, .slice a1 n1 q1, .slice a2 n2 q2, .slice a3 n3 q3, .slice a4 n4 q4], y.oneCell' = true := by
 intro y hy
 simp at hy
 rcases hy with rfl | rfl | rfl | rfl | rfl <;> rfl
theorem RowF.laid (W : World) (xs : List Value) (e B : Nat) (hB : B = W.heap.size) : RowF (W.alloc (.cells xs.toArray e)) (fun g => g = B) (.slice (some ⟨B, 0, none⟩) 1 1) 1 xs := by
 subst hB
 refine ⟨_, W.heap.size, 0, 1, rfl, Nat.le_refl _, by decide, fun _ => ⟨rfl, rfl, _, _, heap_alloc_new W _⟩, fun j u hj => ?_, (fun h => by cases h), fun h => by omega⟩
 rw [Nat.zero_add, cell_of_cells (heap_alloc_new W _)]
 simpa using hj
end
section
open Go.RowKit

theorem lfT_at {ps : PL} {i : Nat} (h : i < ps.length) : lfT ps i = leafT ((ps.drop i).take (manyN (ps.length - i))) :: lfT ps (i + manyN (ps.length - i)) := by rw [lfT_eq, if_pos h]
theorem lfC_at {ps : PL} {i : Nat} (h : i < ps.length) : lfC ps i = (if 0 < i then [kOf ps i] else []) ++ lfC ps (i + manyN (ps.length - i)) := by rw [lfC_eq, if_pos h]
theorem lfT_end {ps : PL} {i : Nat} (h : ¬ i < ps.length) : lfT ps i = [] := by rw [lfT_eq, if_neg h]
theorem lfC_end {ps : PL} {i : Nat} (h : ¬ i < ps.length) : lfC ps i = [] := by rw [lfC_eq, if_neg h]
theorem flatP_drop (l : PL) (k : Nat) : (flatP l).drop (k * 2) = flatP (l.drop k) := by
 induction k generalizing l with
 | zero => simp
 | succ k ih =>
  cases l with
  | nil => simp [flatP]
  | cons a l =>
   rw [show flatP (a :: l) = .int .i64 a.1 :: .int .i64 a.2 :: flatP l from rfl, show (k + 1) * 2 = k * 2 + 1 + 1 by omega]
   simp only [List.drop_succ_cons]
   exact ih l
theorem flatP_take (l : PL) (k : Nat) : (flatP l).take (k * 2) = flatP (l.take k) := by
 induction k generalizing l with
 | zero => simp [flatP]
 | succ k ih =>
  cases l with
  | nil => simp [flatP]
  | cons a l =>
   rw [show flatP (a :: l) = .int .i64 a.1 :: .int .i64 a.2 :: flatP l from rfl, show (k + 1) * 2 = k * 2 + 1 + 1 by omega]
   simp only [List.take_succ_cons]
   rw [ih l]
   rfl
theorem Row.subP {w : World} {b o q : Nat} {l : PL} (h : Row w (.slice (some ⟨b, o, none⟩) l.length q) l.length (flatP l)) (i m : Nat) (hi : i + m ≤ l.length) (hm : 0 < m) : Row w (.slice (some ⟨b, o + i * 2, none⟩) m (q - i)) m (flatP ((l.drop i).take m)) := by
 have hq : l.length ≤ q := by obtain ⟨_, _, _, _, h, h', _⟩ := h; simp at h; omega
 have := h.sub (size := 2) i (i + m) (by omega) hi (by omega)
 rw [if_neg (by omega), show i + m - i = m by omega, flatP_drop, flatP_take] at this
 simpa [Go.WideShapes.add_plain] using this

theorem l4Leaf_any (F : Nat → Prop) (vp : Value) (ps : PL) (w : World) (h : RowF w F vp ps.length (flatP ps)) (hn : ps.length ≤ 1048576) :
  Calls Try.prog 58 #[vp] w fun e w' => ∃ v1 v2, e = .returned (.agg #[v1, v2]) ∧ TreesF 1 w' (fun b => F b ∨ w.heap.size ≤ b) v1 (leafM ps).1 ∧ RowF w' (fun b => F b ∨ w.heap.size ≤ b) v2 (leafM ps).2.length (flatI (leafM ps).2) ∧ Below w.heap.size w w' := by
 obtain ⟨i0, hi0, hz0, hz1, hz2⟩ := info_parts Try.info54
 obtain ⟨j0, hj0', hy0, hy1, hy2⟩ := info_parts Try.info3
 obtain ⟨k0, hk0, hx0, hx1, hx2⟩ := info_parts Try.info76
 have HF := hid (h)
 have HR := hid (h.row)
 obtain ⟨av, b, off, cap, rfl, hcap, hmax, ha, ck, cv⟩ := h.row.pairs
 unfold maxLen at hmax
 clear h
 by_cases h4 : ps.length ≤ 4
 ·have E : Hid (leafM ps = ([leafT ps], [])) := by show _ = _; rw [leafM, if_pos h4]
  rw [E.out]
  clear E ck cv ha HR
  have hl4 : (ps.length : Int) ≤ 4 := by omega
  generalize hnp : ps.length = np at *
  go_enter Try.func58, Try.ntmps58
  go_wp2
  have hb : Below w.heap.size w ((w.alloc (.cells #[.slice (some ⟨w.heap.size + 1, 0, none⟩) 1 1, .slice none 0 0] 95)).alloc (.cells #[.bool true, .slice av np cap, .slice none 0 0, .slice none 0 0, .slice none 0 0] 54)) := al2 _ _ _
  have hrow := RowF.laid (w.alloc (.cells #[.slice (some ⟨w.heap.size + 1, 0, none⟩) 1 1, .slice none 0 0] 95)) [.bool true, .slice av np cap, .slice none 0 0, .slice none 0 0, .slice none 0 0] 54 (w.heap.size + 1) (by simp)
  refine bodyPost_ret (v := .agg #[.slice (some ⟨w.heap.size + 1, 0, none⟩) 1 1, .slice none 0 0]) (by simp [results, Try.results58, go_sem]) rfl ⟨_, _, rfl, ?_, RowF.nil _ _, hb⟩
  refine ⟨[⟨true, .slice av np cap, .slice none 0 0, .slice none 0 0, .slice none 0 0⟩], rfl, hrow.mono (fun g hg => .inr (by omega)), fun i hi => ?_⟩
  have hi0 : i = 0 := by simp at hi; omega
  subst hi0
  have hf : RowF _ F (.slice av np cap) np (flatP ps) := HF.out.frame (fun g _ hg => hb.block g hg)
  refine TreeF.mk rfl ?_ (RowF.nil _ _) (RowF.nil _ _) (TreesF.nil _ _ _)
  show RowF _ _ (.slice av np cap) ps.length (flatP ps)
  rw [hnp]
  exact hf.mono fun g hg => .inl hg
 ·have E : Hid (leafM ps = (lfT ps 0, lfC ps 0)) := by show _ = _; rw [leafM, if_neg h4]
  rw [E.out]
  clear E
  have hav := ha (by omega)
  subst hav
  have TA := hid (fun j (hj : j < ps.length) => lfT_at hj)
  have CA := hid (fun j (hj : j < ps.length) => lfC_at hj)
  have TE := hid (fun j (hj : ¬ j < ps.length) => lfT_end hj)
  have CE := hid (fun j (hj : ¬ j < ps.length) => lfC_end hj)
  have MN := hid (manyN_two)
  have M3 : Hid (manyN 3 = 3) := rfl
  have RP := hid (fun (j m : Nat) (w1 : World) (hb : Below w.heap.size w w1) (hj : j + m ≤ ps.length) (hm : 0 < m) => (HR.out.below hb).subP j m hj hm)
  have LP : Hid (∀ (j m : Nat), j + m ≤ ps.length → ((ps.drop j).take m).length = m) := fun j m hj => by simp; omega
  have CK := hid (fun (j : Nat) (w1 : World) (hb : Below w.heap.size w w1) (hj : j < ps.length) => cell_lowB hb (cell_lt (ck j hj)) (ck j hj))
  have X0 : Hid (BoxM ((w.alloc (.cells #[.slice none 0 0, .slice none 0 0] 95)).alloc (.cells #[.slice none 0 0, .slice none 0 0] 95)) w.heap.size #[.slice none 0 0, .slice none 0 0]) := (BoxM.start w _).alloc _
  have X1 : Hid (BoxM ((w.alloc (.cells #[.slice none 0 0, .slice none 0 0] 95)).alloc (.cells #[.slice none 0 0, .slice none 0 0] 95)) (w.heap.size + 1) #[.slice none 0 0, .slice none 0 0]) := by
   have := BoxM.start (w.alloc (.cells #[.slice none 0 0, .slice none 0 0] 95)) #[.slice none 0 0, .slice none 0 0]
   rw [World.size_alloc] at this
   exact this
  have B0 : Hid (Below w.heap.size w ((w.alloc (.cells #[.slice none 0 0, .slice none 0 0] 95)).alloc (.cells #[.slice none 0 0, .slice none 0 0] 95))) := al2 _ _ _
  have Z0 : Hid (w.heap.size + 2 ≤ ((w.alloc (.cells #[.slice none 0 0, .slice none 0 0] 95)).alloc (.cells #[.slice none 0 0, .slice none 0 0] 95)).heap.size) := by show _ ≤ _; simp
  have PG : Hid (∀ g, g = w.heap.size ∨ g = w.heap.size + 1 → ¬ ((F g ∧ g < w.heap.size) ∨ w.heap.size + 2 ≤ g) ∧ g < w.heap.size + 2) := fun g hg => ⟨fun k => by rcases k with ⟨_, k⟩ | k <;> omega, by omega⟩
  clear HR ck cv ha
  have hn5 : ¬ (ps.length : Int) ≤ 4 := by omega
  have LT0 : Hid (lfT ps 0 = lfT ps 0) := rfl
  generalize hT0 : lfT ps 0 = T0 at *
  generalize hC0 : lfC ps 0 = C0 at *
  have T00 : Hid (lfT ps 0 = T0) := hT0
  have C00 : Hid (lfC ps 0 = C0) := hC0
  clear hT0 hC0 LT0
  generalize hnp : ps.length = np at *
  go_enter Try.func58, Try.ntmps58
  go_wp2
  go_loopw [5] (fun i wr => ∃ (j : Nat) (ts : List Tr) (cs : List Int) (a1 a2 : Option Addr) (q1 q2 : Nat), i = .int .i64 j ∧ j ≤ np ∧ (2 ≤ np - j ∨ np ≤ j) ∧ ts.length ≤ j ∧ cs.length ≤ j ∧ Hid (ts ++ lfT ps j = T0) ∧ Hid (cs ++ lfC ps j = C0) ∧ Hid (OutM 1 (w.heap.size + 2) (fun g => (F g ∧ g < w.heap.size) ∨ w.heap.size + 2 ≤ g) wr (.slice a1 ts.length q1) (.slice a2 cs.length q2) ts cs) ∧ Hid (BoxM wr (w.heap.size + 1) #[.slice a1 ts.length q1, .slice a2 cs.length q2]) ∧ Hid (BoxM wr w.heap.size #[.slice none 0 0, .slice none 0 0]) ∧ Hid (Below w.heap.size w wr) ∧ Hid (w.heap.size + 2 ≤ wr.heap.size))
   (fun i _ => np - (intOf i).toNat)
  case atStart => exact ⟨0, [], [], none, none, 0, 0, rfl, Nat.zero_le _, by omega, Nat.le_refl _, Nat.le_refl _, T00, C00, OutM.nil _ _ _ _, X1, X0, B0, Z0⟩
  case round =>
   obtain ⟨j, ts, cs, a1, a2, q1, q2, rfl, hjn, hjj, htl, hcl, ET, EC, OM, BX, BR, BW, ZW⟩ := hrel
   clear X0 X1 B0 Z0 T00 C00
   by_cases hlt : j < np
   ·have TA1 : Hid _ := TA.out j hlt
    have CA1 : Hid _ := CA.out j hlt
    have MN1 := MN.out (np - j)
    have RP1 : Hid _ := RP.out j (manyN (np - j))
    have LP1 : Hid _ := LP.out j (manyN (np - j))
    have MM : Hid (np - j = 3 → manyN (np - j) = 3) := fun h => by show _; rw [h]; exact M3.out
    generalize hM : manyN (np - j) = M at *
    have hM' : j + M ≤ np := by omega
    have hwk : IntKind.i64.wrap ((np : Int) - (j : Int)) = (np : Int) - (j : Int) := by rw [IntKind.wrap_i64]; omega
    clear hM
    go_upto_if 22 with fail
    go_cut [6] (fun s6 wx => s6 = .int .i64 (M : Nat) ∧ wx = wr)
    case first =>
     by_cases h3 : np - j = 3
     ·have e3 : (((np : Int) - (j : Int)) == 3) = true := by rw [beq_iff_eq]; omega
      have hM3 := MM.out h3
      go_wp2
      go_meet
      case rel => exact ⟨by rw [hM3]; rfl, rfl⟩
     ·have e3 : (((np : Int) - (j : Int)) == 3) = false := by rw [beq_eq_false_iff_ne]; omega
      have hM2 : M = 2 := by omega
      go_wp2
      go_meet
      case rel => exact ⟨by rw [hM2]; rfl, rfl⟩
    case rest =>
    obtain ⟨rfl, hw⟩ := hcut
    rw [hw]
    clear hw wc
    go_upto_if 24 with fail
    go_cut [6] (fun s6 wx => s6 = .int .i64 (M : Nat) ∧ ∃ (cs' : List Int) (a3 : Option Addr) (q3 : Nat), cs'.length ≤ j + 1 ∧ Hid (cs' ++ lfC ps (j + M) = C0) ∧ Hid (OutM 1 (w.heap.size + 2) (fun g => (F g ∧ g < w.heap.size) ∨ w.heap.size + 2 ≤ g) wx (.slice a1 ts.length q1) (.slice a3 cs'.length q3) ts cs') ∧ Hid (BoxM wx (w.heap.size + 1) #[.slice a1 ts.length q1, .slice a3 cs'.length q3]) ∧ Hid (BoxM wx w.heap.size #[.slice none 0 0, .slice none 0 0]) ∧ Hid (Below w.heap.size w wx) ∧ Hid (w.heap.size + 2 ≤ wx.heap.size))
    case first =>
     by_cases h0 : 0 < j
     ·have EC' : Hid ((cs ++ [kOf ps j]) ++ lfC ps (j + M) = C0) := by
       have h1 := CA1.out
       have h2 := EC.out
       rw [h1, if_pos h0] at h2
       show _ = _
       simpa using h2
      have kk := CK.out j wr BW.out hlt
      have CKj : Hid (∀ w1, Below w.heap.size w w1 → w1.cell? ⟨b, off + j * 2, none⟩ = some (.int .i64 (kOf ps j))) := fun w1 hb => CK.out j w1 hb hlt
      generalize kOf ps j = x1 at *
      have hj0 : (0 : Int) < (j : Int) := by omega
      have hi1 : (0 : Int) ≤ (j : Int) := by omega
      have hi2 : (j : Int) < (np : Int) := by omega
      have OMd : Hid (OutM 1 (w.heap.size + 2) (fun g => (F g ∧ g < w.heap.size) ∨ w.heap.size + 2 ≤ g) wr.drew (.slice a1 ts.length q1) (.slice a2 cs.length q2) ts cs) := OM.out.drew
      have BXd : Hid (BoxM wr.drew (w.heap.size + 1) #[.slice a1 ts.length q1, .slice a2 cs.length q2]) := BX.out.drew
      have BRd : Hid (BoxM wr.drew w.heap.size #[.slice none 0 0, .slice none 0 0]) := BR.out.drew
      have BWd : Hid (Below w.heap.size w wr.drew) := BW.out.drew
      have ZWd : Hid (w.heap.size + 2 ≤ wr.drew.heap.size) := ZW.out
      have hS : wr.drew.cell? ⟨w.heap.size + 1, 1, none⟩ = some (.slice a2 cs.length q2) ∧ wr.drew.cell? ⟨b, off + j * 2, none⟩ = some (.int .i64 x1) := ⟨BX.out.two.2, kk⟩
      clear OM BX BR BW ZW kk ET TA1 CA1 EC RP1 LP1 MM
      go_wp2_with fail
      refine wp_region_last (fun w' => w'.cell? ⟨w.heap.size + 1, 1, none⟩ = some (.slice a2 cs.length q2) ∧ w'.cell? ⟨b, off + j * 2, none⟩ = some (.int .i64 x1)) [_, _, _, _, _, _, _, _, _, _] _ rfl (by kernel_rfl) (by kernel_rfl) ?_
      generalize wr.drew = wd at *
      refine tq 0 rfl (by kernel_rfl) (fun _ _ _ h => h) (by assumption) rfl (by intro w h; go_simp <;> with_reducible rfl) ?_
      try simp only [Act.put, sA, sB, sC]
      refine tq 1 rfl (by kernel_rfl) (fun _ _ _ h => h) (by assumption) rfl (by intro w h; go_simp <;> with_reducible rfl) ?_
      try simp only [Act.put, sA, sB, sC]
      refine tq 2 rfl (by kernel_rfl) (fun _ _ _ h => h) (by assumption) rfl (by intro w h; go_simp <;> with_reducible rfl) ?_
      try simp only [Act.put, sA, sB, sC]
      refine tq 3 rfl (by kernel_rfl) (fun _ _ _ h => h) (by assumption) rfl (by intro w h; go_simp <;> with_reducible rfl) ?_
      try simp only [Act.put, sA, sB, sC]
      refine tq 4 rfl (by kernel_rfl) (fun _ _ _ h => h) (by assumption) rfl (by intro w h; go_simp <;> with_reducible rfl) ?_
      try simp only [Act.put, sA, sB, sC]
      refine tq 5 rfl (by kernel_rfl) (fun _ _ _ h => h) (by assumption) rfl (by intro w h; go_simp <;> with_reducible rfl) ?_
      try simp only [Act.put, sA, sB, sC]
      refine tq 6 rfl (by kernel_rfl) (fun _ _ _ h => h) (by assumption) rfl (by intro w h; go_simp <;> with_reducible rfl) ?_
      try simp only [Act.put, sA, sB, sC]
      refine rq 7 (by kernel_rfl) rfl (fun K hK => ?_)
      go_simp
      refine hK.out _ _ ⟨cell_lowB (al1 wd _) (cell_lt hS.1) hS.1, cell_lowB (al1 wd _) (cell_lt hS.2) hS.2⟩ (fun hH => ?_)
      clear hK K
      try simp only [Act.put, sA, sB, sC]
      refine rq 8 (by kernel_rfl) rfl (fun K hK => ?_)
      have HR1 : Hid _ := room_of (n := cs.length) (bytes := 8) (by omega) (by decide)
      refine step_appE (wd.alloc (.cells #[.int .i64 x1] 3)) rfl _ _ 50 rfl (w.heap.size + 2) 3 j0 _ 1 8 Try.underlying50 hj0' hy0 hy1 hy2 rfl (by decide) (.slice a2 cs.length q2) cs.length (flatI cs) rfl (OMd.out.alloc _).rowC (.slice (some ⟨wd.heap.size, 0, none⟩) 1 1) 1 (flatI [x1]) rfl (Row.laid wd (flatI [x1]) 3 _ rfl) rfl (flatI_one _) HR1.out.1 HR1.out.2 (by simp; have := ZWd.out; omega) ?_
      intro v5 w5 A5
      have OM5 : OutM 1 (w.heap.size + 2) (fun g => (F g ∧ g < w.heap.size) ∨ w.heap.size + 2 ≤ g) w5 (.slice a1 ts.length q1) v5 ts (cs ++ [x1]) := (OMd.out.alloc _).addC (ds := [x1]) A5
      obtain ⟨_, _, a3, q3, _, hv5⟩ := OM5.shape
      subst hv5
      have CH : Chg (wrB (.slice a2 cs.length q2)) wd w5 := ((Chg.refl _ _).alloc _).trans A5.2.1 (fun _ _ h => h)
      have NW : ∀ g, wrB (.slice a2 cs.length q2) g → w.heap.size + 2 ≤ g := fun g hg => (OMd.out.rowC.lt g hg).1
      have BX5 : Hid (BoxM w5 (w.heap.size + 1) #[.slice a1 ts.length q1, .slice a2 cs.length q2]) := BXd.out.chg CH (fun h => by have := NW _ h; omega)
      have BR5 : Hid (BoxM w5 w.heap.size #[.slice none 0 0, .slice none 0 0]) := BRd.out.chg CH (fun h => by have := NW _ h; omega)
      have BW5 : Hid (Below w.heap.size w w5) := BWd.out.trans (CH.below (fun g _ hg => by have := NW g hg; omega) (by have := ZWd.out; omega))
      have ZW5 : Hid (w.heap.size + 2 ≤ w5.heap.size) := Nat.le_trans ZWd.out CH.size
      have OM5' : Hid _ := OM5
      have kk := CKj.out w5 BW5.out
      obtain ⟨m0, m1⟩ := BX5.out.two
      obtain ⟨f0, f1⟩ := BX5.out.free
      clear A5 OM5 CH NW hS hH
      refine hK.out _ _ ⟨m1, kk⟩ (fun hH => ?_)
      clear hK K
      try simp only [Act.put, sA, sB, sC]
      refine tq 9 rfl (by kernel_rfl) (fun _ _ _ h => h) (by assumption) rfl (by intro w h; go_simp <;> with_reducible rfl) ?_
      try simp only [Act.put, sA, sB, sC]
      refine wpAnyH_done (by kernel_rfl) ?_ _
      show Oper.wp _ _ _ _ _ _
      go_simp
      have FIN : Hid (∀ v, OutM 1 (w.heap.size + 2) (fun g => (F g ∧ g < w.heap.size) ∨ w.heap.size + 2 ≤ g) (w5.setCell ⟨w.heap.size + 1, 1, none⟩ v) (.slice a1 ts.length q1) (.slice a3 (cs ++ [x1]).length q3) ts (cs ++ [x1]) ∧ BoxM (w5.setCell ⟨w.heap.size + 1, 1, none⟩ v) w.heap.size #[.slice none 0 0, .slice none 0 0] ∧ Below w.heap.size w (w5.setCell ⟨w.heap.size + 1, 1, none⟩ v) ∧ w.heap.size + 2 ≤ (w5.setCell ⟨w.heap.size + 1, 1, none⟩ v).heap.size) := fun v =>
       ⟨OutM.chg OM5'.out (chg_set1 w5 (w.heap.size + 1) 1 v) (fun g hg => PG.out g (.inr hg)), BR5.out.chg (chg_set1 w5 (w.heap.size + 1) 1 v) (by omega), BW5.out.setCell (p := ⟨w.heap.size + 1, 1, none⟩) (by show w.heap.size ≤ w.heap.size + 1; omega) _, by simpa using ZW5.out⟩
      clear m0 m1 f0 f1 hH kk
      go_wp2_with fail
      go_meet
      case rel => exact ⟨rfl, cs ++ [x1], a3, q3, by simp; omega, EC', (FIN.out _).1, (by have := BX5.out.set1 (.slice a3 (cs.length + 1) q3); rw [show (cs ++ [x1]).length = cs.length + 1 by simp]; exact this), (FIN.out _).2.1, (FIN.out _).2.2.1, (FIN.out _).2.2.2⟩
     ·have h00 : j = 0 := by omega
      subst h00
      have EC' : Hid (cs ++ lfC ps (0 + M) = C0) := by
       have h1 := CA1.out
       have h2 := EC.out
       rw [h1] at h2
       show _ = _
       simpa using h2
      go_wp2
      go_meet
      case rel => exact ⟨rfl, cs, a2, q2, by omega, EC', OM, BX, BR, BW, ZW⟩
    case rest =>
    obtain ⟨rfl, cs', a3, q3, hcl', EC2, OM2, BX2, BR2, BW2, ZW2⟩ := hcut
    have OMd : Hid (OutM 1 (w.heap.size + 2) (fun g => (F g ∧ g < w.heap.size) ∨ w.heap.size + 2 ≤ g) wc.drew (.slice a1 ts.length q1) (.slice a3 cs'.length q3) ts cs') := OM2.out.drew
    have BXd : Hid (BoxM wc.drew (w.heap.size + 1) #[.slice a1 ts.length q1, .slice a3 cs'.length q3]) := BX2.out.drew
    have BRd : Hid (BoxM wc.drew w.heap.size #[.slice none 0 0, .slice none 0 0]) := BR2.out.drew
    have BWd : Hid (Below w.heap.size w wc.drew) := BW2.out.drew
    have ZWd : Hid (w.heap.size + 2 ≤ wc.drew.heap.size) := ZW2.out
    have hS : wc.drew.cell? ⟨w.heap.size + 1, 0, none⟩ = some (.slice a1 ts.length q1) := BX2.out.two.1
    have hcj : ¬ cap = j := by omega
    have hjm : ((j : Int) + (M : Int)).toNat = j + M := by omega
    have hwj : IntKind.i64.wrap ((j : Int) + (M : Int)) = (j : Int) + (M : Int) := by rw [IntKind.wrap_i64]; omega
    have hb1 : (0 : Int) ≤ (j : Int) := by omega
    have hb2 : (j : Int) ≤ (j : Int) + (M : Int) := by omega
    have hb3 : (j : Int) + (M : Int) ≤ (cap : Int) := by omega
    have hMM := MM.out
    have LPj := LP1.out hM'
    have RPj : Hid (∀ w1, Below w.heap.size w w1 → Row w1 (.slice (some ⟨b, off + j * 2, none⟩) M (cap - j)) M (flatP ((ps.drop j).take M))) := fun w1 hb => RP1.out w1 hb hM' (by omega)
    have ET2 : Hid ((ts ++ [leafT ((ps.drop j).take M)]) ++ lfT ps (j + M) = T0) := by
     have h1 := TA1.out
     have h2 := ET.out
     rw [h1] at h2
     show _ = _
     simpa using h2
    have FL : Hid ((flatP ((ps.drop j).take M)).length = M * 2) := by show _ = _; rw [flatP_length, LPj]
    have FO : Hid (∀ y ∈ flatP ((ps.drop j).take M), y.oneCell' = true) := flatP_one _
    have ZM : Hid (0 + M ≤ maxLen ∧ (0 + M) * 16 ≤ 140737488355328) := ⟨by unfold maxLen; omega, by omega⟩
    clear OM2 BX2 BR2 BW2 ZW2 OM BX BR BW ZW TA1 CA1 ET EC RP1 LP1 MM CK
    generalize hCH : (ps.drop j).take M = CH at *
    clear hCH
    go_wp2_with fail
    refine wp_region_last (fun w' => w'.cell? ⟨w.heap.size + 1, 0, none⟩ = some (.slice a1 ts.length q1)) [_, _, _, _, _, _, _, _, _, _, _, _, _, _] _ rfl (by kernel_rfl) (by kernel_rfl) ?_
    generalize wc.drew = wd at *
    refine tq 0 rfl (by kernel_rfl) (fun _ _ _ h => h) (by assumption) rfl (by intro w h; go_simp <;> with_reducible rfl) ?_
    try simp only [Act.put, sA, sB, sC]
    refine tq 1 rfl (by kernel_rfl) (fun _ _ _ h => h) (by assumption) rfl (by intro w h; go_simp <;> with_reducible rfl) ?_
    try simp only [Act.put, sA, sB, sC]
    refine tq 3 rfl (by kernel_rfl) (fun _ _ _ h => h) (by assumption) rfl (by intro w h; go_simp <;> with_reducible rfl) ?_
    try simp only [Act.put, sA, sB, sC]
    refine tq 4 rfl (by kernel_rfl) (fun _ _ _ h => h) (by assumption) rfl (by intro w h; go_simp <;> with_reducible rfl) ?_
    try simp only [Act.put, sA, sB, sC]
    refine tq 5 rfl (by kernel_rfl) (fun _ _ _ h => h) (by assumption) rfl (by intro w h; go_simp <;> with_reducible rfl) ?_
    try simp only [Act.put, sA, sB, sC]
    refine tq 6 rfl (by kernel_rfl) (fun _ _ _ h => h) (by assumption) rfl (by intro w h; go_simp <;> with_reducible rfl) ?_
    try simp only [Act.put, sA, sB, sC]
    refine tq 7 rfl (by kernel_rfl) (fun _ _ _ h => h) (by assumption) rfl (by intro w h; go_simp <;> with_reducible rfl) ?_
    try simp only [Act.put, sA, sB, sC]
    refine tq 8 rfl (by kernel_rfl) (fun _ _ _ h => h) (by assumption) rfl (by intro w h; go_simp <;> with_reducible rfl) ?_
    try simp only [Act.put, sA, sB, sC]
    refine rq 2 (by kernel_rfl) rfl (fun K hK => ?_)
    go_simp
    refine hK.out _ _ (cell_lowB (al1 wd _) (cell_lt hS) hS) (fun hH => ?_)
    clear hK K
    try simp only [Act.put, sA, sB, sC]
    refine rq 9 (by kernel_rfl) rfl (fun K hK => ?_)
    refine step_appE _ rfl _ _ 49 rfl (w.heap.size + 2) 76 k0 _ 2 16 Try.underlying49 hk0 hx0 hx1 hx2 rfl (by decide) (.slice (some ⟨wd.heap.size, 0, none⟩) 0 0) 0 [] rfl (OwnE.zero _ _ _ _ _) (.slice (some ⟨b, off + j * 2, none⟩) M (cap - j)) M (flatP CH) rfl (RPj.out _ (BWd.out.trans ((al1 wd _).mono BWd.out.size))) FL.out FO.out ZM.out.1 ZM.out.2 (by simp; have := ZWd.out; omega) ?_
    intro v9 w9 A9
    have L9 : Below wd.heap.size wd w9 := Below.and (al1 wd _) (A9.2.1.below (fun g _ h => absurd h (wrB_zero _ _)) (Nat.le_refl _))
    have O9 : OwnE w9 (w.heap.size + 2) 76 2 v9 M (flatP CH) := by
     have := A9.1
     rw [Nat.zero_add, List.nil_append] at this
     exact this
    have N9 : ∀ g, wrB v9 g → wd.heap.size ≤ g := fun g hg => (A9.2.2.2 g hg).elim (fun h => absurd h (wrB_zero _ _)) (fun h => by simp at h; omega)
    obtain ⟨a9, q9, hv9⟩ := O9.slice
    subst hv9
    have OM9 : Hid (OutM 1 (w.heap.size + 2) (fun g => (F g ∧ g < w.heap.size) ∨ w.heap.size + 2 ≤ g) w9 (.slice a1 ts.length q1) (.slice a3 cs'.length q3) ts cs') := OMd.out.below L9
    have BX9 : Hid (BoxM w9 (w.heap.size + 1) #[.slice a1 ts.length q1, .slice a3 cs'.length q3]) := BXd.out.step L9 BXd.out.lt
    have BR9 : Hid (BoxM w9 w.heap.size #[.slice none 0 0, .slice none 0 0]) := BRd.out.step L9 BRd.out.lt
    have BW9 : Hid (Below w.heap.size w w9) := Below.and BWd.out L9
    have ZW9 : Hid (w.heap.size + 2 ≤ w9.heap.size) := Nat.le_trans ZWd.out L9.size
    have NEW : Hid (TreeF 1 w9 (offB (fun g => (F g ∧ g < w.heap.size) ∨ w.heap.size + 2 ≤ g) (.slice a1 ts.length q1) (.slice a3 cs'.length q3)) ⟨true, .slice a9 M q9, .slice none 0 0, .slice none 0 0, .slice none 0 0⟩ (leafT CH)) := by
     obtain ⟨xs, x1, x2, x3, x4, x5⟩ := OMd.out
     refine TreeF.mk rfl ?_ (RowF.nil _ _) (RowF.nil _ _) (TreesF.nil _ _ _)
     show RowF w9 _ (.slice a9 M q9) CH.length (flatP CH)
     rw [LPj]
     exact O9.rowF.mono fun g hg => ⟨.inr (O9.lt g hg).1, fun h => by have := N9 g hg; have := (x2.lt g h).2; omega, fun h => by have := N9 g hg; have := (x3.lt g h).2; omega⟩
    have h9 := BX9.out.two.1
    clear A9 O9 N9 L9 hS hH OMd BXd BRd BWd ZWd RPj
    refine hK.out _ _ h9 (fun hH => ?_)
    clear hK K
    try simp only [Act.put, sA, sB, sC]
    refine tq 10 rfl (by kernel_rfl) (fun _ _ _ h => h) (by assumption) rfl (by intro w h; go_simp <;> with_reducible rfl) ?_
    try simp only [Act.put, sA, sB, sC]
    refine rq 11 (by kernel_rfl) rfl (fun K hK => ?_)
    go_simp
    refine hK.out _ _ (cell_lowB (al1 w9 _) (cell_lt h9) h9) (fun hH => ?_)
    clear hK K
    try simp only [Act.put, sA, sB, sC]
    refine rq 12 (by kernel_rfl) rfl (fun K hK => ?_)
    obtain ⟨xs, y1, y2, y3, y4, y5⟩ := OM9.out.alloc (.cells #[.bool true, .slice a9 M q9, .slice none 0 0, .slice none 0 0, .slice none 0 0] 54)
    have HR1 : Hid _ := room_of (n := xs.length) (bytes := 104) (by omega) (by decide)
    refine step_appE (w9.alloc (.cells #[.bool true, .slice a9 M q9, .slice none 0 0, .slice none 0 0, .slice none 0 0] 54)) rfl _ _ 51 rfl (w.heap.size + 2) 54 i0 _ 5 104 Try.underlying51 hi0 hz0 hz1 hz2 rfl (by decide) (.slice a1 ts.length q1) xs.length (flatT xs) rfl y2 (.slice (some ⟨w9.heap.size, 0, none⟩) 1 1) 1 (flatT [⟨true, .slice a9 M q9, .slice none 0 0, .slice none 0 0, .slice none 0 0⟩]) rfl (Row.laid w9 (flatT [⟨true, .slice a9 M q9, .slice none 0 0, .slice none 0 0, .slice none 0 0⟩]) 54 _ rfl) rfl tv_one HR1.out.1 HR1.out.2 (by simp; have := ZW9.out; omega) ?_
    intro v5 w5 A5
    have OM5 : OutM 1 (w.heap.size + 2) (fun g => (F g ∧ g < w.heap.size) ∨ w.heap.size + 2 ≤ g) w5 v5 (.slice a3 cs'.length q3) (ts ++ [leafT CH]) cs' := OutM.addT (us := [leafT CH]) ⟨xs, y1, y2, y3, y4, y5⟩ rfl rfl (fun i hi => by
     have hi0 : i = 0 := by simp at hi; omega
     subst hi0
     exact NEW.out.below (al1 w9 _)) y1 y5 A5
    obtain ⟨a5, q5, _, _, hv5, _⟩ := OM5.shape
    subst hv5
    have CHG : Chg (wrB (.slice a1 ts.length q1)) w9 w5 := ((Chg.refl _ _).alloc _).trans A5.2.1 (fun _ _ h => h)
    have NW : ∀ g, wrB (.slice a1 ts.length q1) g → w.heap.size + 2 ≤ g := fun g hg => (y2.lt g hg).1
    have BX5 : Hid (BoxM w5 (w.heap.size + 1) #[.slice a1 ts.length q1, .slice a3 cs'.length q3]) := BX9.out.chg CHG (fun h => by have := NW _ h; omega)
    have BR5 : Hid (BoxM w5 w.heap.size #[.slice none 0 0, .slice none 0 0]) := BR9.out.chg CHG (fun h => by have := NW _ h; omega)
    have BW5 : Hid (Below w.heap.size w w5) := BW9.out.trans (CHG.below (fun g _ hg => by have := NW g hg; omega) (by have := ZW9.out; omega))
    have ZW5 : Hid (w.heap.size + 2 ≤ w5.heap.size) := Nat.le_trans ZW9.out CHG.size
    have OM5' : Hid _ := OM5
    obtain ⟨m0, m1⟩ := BX5.out.two
    obtain ⟨f0, f1⟩ := BX5.out.free
    clear A5 OM5 CHG NW hH y1 y2 y3 y4 y5 h9 OM9 BX9 BR9 BW9 ZW9 NEW
    refine hK.out _ _ m0 (fun hH => ?_)
    clear hK K
    try simp only [Act.put, sA, sB, sC]
    refine tq 13 rfl (by kernel_rfl) (fun _ _ _ h => h) (by assumption) rfl (by intro w h; go_simp <;> with_reducible rfl) ?_
    try simp only [Act.put, sA, sB, sC]
    refine wpAnyH_done (by kernel_rfl) ?_ _
    show Oper.wp _ _ _ _ _ _
    go_simp
    have FIN : Hid (∀ v, OutM 1 (w.heap.size + 2) (fun g => (F g ∧ g < w.heap.size) ∨ w.heap.size + 2 ≤ g) (w5.setCell ⟨w.heap.size + 1, 0, none⟩ v) (.slice a5 (ts ++ [leafT CH]).length q5) (.slice a3 cs'.length q3) (ts ++ [leafT CH]) cs' ∧ BoxM (w5.setCell ⟨w.heap.size + 1, 0, none⟩ v) w.heap.size #[.slice none 0 0, .slice none 0 0] ∧ Below w.heap.size w (w5.setCell ⟨w.heap.size + 1, 0, none⟩ v) ∧ w.heap.size + 2 ≤ (w5.setCell ⟨w.heap.size + 1, 0, none⟩ v).heap.size) := fun v =>
     ⟨OutM.chg OM5'.out (chg_set1 w5 (w.heap.size + 1) 0 v) (fun g hg => PG.out g (.inr hg)), BR5.out.chg (chg_set1 w5 (w.heap.size + 1) 0 v) (by omega), BW5.out.setCell (p := ⟨w.heap.size + 1, 0, none⟩) (by show w.heap.size ≤ w.heap.size + 1; omega) _, by simpa using ZW5.out⟩
    clear m0 m1 f0 f1 hH HR1
    go_wp2
    go_roundw
    case rel => exact ⟨j + M, ts ++ [leafT CH], cs', a5, a3, q5, q3, by go_num, hM', by omega, by simp; omega, by omega, ET2, EC2, (FIN.out _).1, (by have := BX5.out.set0 (.slice a5 (ts.length + 1) q5); rw [show (ts ++ [leafT CH]).length = ts.length + 1 by simp]; exact this), (FIN.out _).2.1, (FIN.out _).2.2.1, (FIN.out _).2.2.2⟩
    case measure => simp [intOf]; omega
   ·have hTE := TE.out j hlt
    have hCE := CE.out j hlt
    have E1 : Hid (ts = T0) := by
     have := ET.out
     rw [hTE, List.append_nil] at this
     exact this
    have E2 : Hid (cs = C0) := by
     have := EC.out
     rw [hCE, List.append_nil] at this
     exact this
    clear hTE hCE ET EC TE CE TA CA CK RP LP
    obtain ⟨l0, l1⟩ := BX.out.two
    obtain ⟨r0, r1⟩ := BR.out.two
    obtain ⟨r2, r3⟩ := BR.out.free
    have FIN : Hid (∀ v v', OutM 1 (w.heap.size + 2) (fun g => (F g ∧ g < w.heap.size) ∨ w.heap.size + 2 ≤ g) (set2 wr w.heap.size v v') (.slice a1 ts.length q1) (.slice a2 cs.length q2) ts cs ∧ Below w.heap.size w (set2 wr w.heap.size v v')) := fun v v' =>
     ⟨OM.out.chg (chg_set2 wr w.heap.size v v') (fun g hg => PG.out g (.inl hg)), (BW.out.setCell (p := ⟨w.heap.size, 0, none⟩) (Nat.le_refl _) _).setCell (p := ⟨w.heap.size, 1, none⟩) (Nat.le_refl _) _⟩
    clear OM BX BR BW ZW
    go_wp2
    refine bodyPost_ret (v := .agg #[.slice a1 ts.length q1, .slice a2 cs.length q2]) (by simp [results, Try.results58, go_sem, r0, r1]) rfl ⟨_, _, rfl, ?_, ?_, (FIN.out _ _).2⟩
    ·rw [← E1.out]
     exact ((FIN.out _ _).1.trees (fun g hg => .inr hg)).1.mono (fun g hg => hg.elim (fun h => .inl h.1) (fun h => .inr (by omega)))
    ·rw [← E2.out]
     exact ((FIN.out _ _).1.trees (fun g hg => .inr hg)).2.mono (fun g hg => hg.elim (fun h => .inl h.1) (fun h => .inr (by omega)))
end
end Go.Proofs.Ytekcnibohikmdaa
