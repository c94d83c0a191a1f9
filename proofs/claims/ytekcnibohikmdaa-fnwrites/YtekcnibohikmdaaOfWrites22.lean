/-
  The contract of the model's l4Pack.
-/
import Derived.Test.YtekcnibohikmdaaOfWrites21
namespace Go.Proofs.Ytekcnibohikmdaa
set_option maxRecDepth 100000
set_option maxHeartbeats 8000000
section
open Go.RowKit

theorem pkT_at {m : TM} {i : Nat} (h : i < m.1.length) : pkT m i = packT m i :: pkT m (i + manyN (m.1.length - i)) := by rw [pkT_eq, if_pos h]
theorem pkC_at {m : TM} {i : Nat} (h : i < m.1.length) : pkC m i = (if 0 < i then [iAt m.2 (i - 1)] else []) ++ pkC m (i + manyN (m.1.length - i)) := by rw [pkC_eq, if_pos h]
theorem pkT_end {m : TM} {i : Nat} (h : ¬ i < m.1.length) : pkT m i = [] := by rw [pkT_eq, if_neg h]
theorem pkC_end {m : TM} {i : Nat} (h : ¬ i < m.1.length) : pkC m i = [] := by rw [pkC_eq, if_neg h]
theorem Row.subT {w : World} {b o q : Nat} {l : List TV} (h : Row w (.slice (some ⟨b, o, none⟩) l.length q) l.length (flatT l)) (i m : Nat) (hi : i + m ≤ l.length) (hm : 0 < m) : Row w (.slice (some ⟨b, o + i * 5, none⟩) m (q - i)) m (flatT ((l.drop i).take m)) := by
 have hq : l.length ≤ q := by obtain ⟨_, _, _, _, h, h', _⟩ := h; simp at h; omega
 have := h.sub (size := 5) i (i + m) (by omega) hi (by omega)
 rw [if_neg (by omega), show i + m - i = m by omega, flatT_drop, flatT_take] at this
 simpa [Go.WideShapes.add_plain] using this
theorem Row.subI {w : World} {b o q : Nat} {l : List Int} (h : Row w (.slice (some ⟨b, o, none⟩) l.length q) l.length (flatI l)) (i m : Nat) (hi : i + m ≤ l.length) (hm : 0 < m) : Row w (.slice (some ⟨b, o + i, none⟩) m (q - i)) m (flatI ((l.drop i).take m)) := by
 have hq : l.length ≤ q := by obtain ⟨_, _, _, _, h, h', _⟩ := h; simp at h; omega
 have := h.sub (size := 1) i (i + m) (by omega) hi (by omega)
 rw [if_neg (by omega), show i + m - i = m by omega, flatI_drop, flatI_take] at this
 simpa [Go.WideShapes.add_plain] using this
theorem tvAt_sub {l : List TV} {i m k : Nat} (hk : k < m) : tvAt ((l.drop i).take m) k = tvAt l (i + k) := by
 simp [tvAt, List.getD, hk, List.getElem?_drop]
theorem getD_sub {l : List Tr} {i m k : Nat} (hk : k < m) : ((l.drop i).take m).getD k noTr = l.getD (i + k) noTr := by
 simp [List.getD, hk, List.getElem?_drop]

theorem l4Pack_any (d : Nat) (F : Nat → Prop) (vt vc : Value) (m : TM) (w : World) (ht : TreesF d w F vt m.1) (hc : RowF w F vc m.2.length (flatI m.2)) (hm : m.2.length + 1 = m.1.length) (h5 : 5 ≤ m.1.length) (hn : m.1.length ≤ 1048576) :
  Calls Try.prog 57 #[.agg #[vt, vc]] w fun e w' => ∃ v1 v2, e = .returned (.agg #[v1, v2]) ∧ TreesF (d + 1) w' (fun b => F b ∨ w.heap.size ≤ b) v1 (packM m).1 ∧ RowF w' (fun b => F b ∨ w.heap.size ≤ b) v2 (packM m).2.length (flatI (packM m).2) ∧ Below w.heap.size w w' := by
 obtain ⟨i0, hi0, hz0, hz1, hz2⟩ := info_parts Try.info54
 obtain ⟨j0, hj0', hy0, hy1, hy2⟩ := info_parts Try.info3
 obtain ⟨xs0, hxl, hrow, hel⟩ := ht
 have hone := flatT_oneF hel
 have HE := hid (fun i (hi : i < xs0.length) => (hel i hi).lt)
 have HT := hid (hrow.row)
 have HC := hid (hc.row)
 obtain ⟨av, b1, off1, c1, hvt, hcap1, hmax1, ha1, _⟩ := hrow.row.trees
 obtain ⟨bv, b2, off2, c2, hvc, hcap2, hmax2, ha2, ck⟩ := hc.row.ints
 subst hvt
 subst hvc
 have hav := ha1 (by omega)
 have hbv := ha2 (by omega)
 subst hav
 subst hbv
 unfold maxLen at hmax1 hmax2
 clear hrow hc hel ha1 ha2
 have TA := hid (fun j (hj : j < m.1.length) => pkT_at hj)
 have CA := hid (fun j (hj : j < m.1.length) => pkC_at hj)
 have TE := hid (fun j (hj : ¬ j < m.1.length) => pkT_end hj)
 have CE : Hid (∀ j, ¬ j < m.1.length → pkC m j = []) := fun j hj => pkC_end hj
 have PK : Hid (∀ j, packT m j = ⟨false, [], (m.2.drop j).take (manyN (m.1.length - j) - 1), (m.1.drop j).take (manyN (m.1.length - j)), []⟩) := fun j => rfl
 have MN : Hid (∀ r, manyN r = 2 ∨ (manyN r = 3 ∧ r = 3)) := manyN_two
 have M3 : Hid (manyN 3 = 3) := rfl
 have RT : Hid (∀ (j k : Nat) (w1 : World), Below w.heap.size w w1 → j + k ≤ m.1.length → 0 < k → Row w1 (.slice (some ⟨b1, off1 + j * 5, none⟩) k (c1 - j)) k (flatT ((xs0.drop j).take k))) := fun j k w1 hb hj hk => (HT.out.below hb).subT j k (by omega) hk
 have RC : Hid (∀ (j k : Nat) (w1 : World), Below w.heap.size w w1 → j + k ≤ m.2.length → 0 < k → Row w1 (.slice (some ⟨b2, off2 + j, none⟩) k (c2 - j)) k (flatI ((m.2.drop j).take k))) := fun j k w1 hb hj hk => (HC.out.below hb).subI j k hj hk
 have CK : Hid (∀ (j : Nat) (w1 : World), Below w.heap.size w w1 → j < m.2.length → w1.cell? ⟨b2, off2 + j, none⟩ = some (.int .i64 (iAt m.2 j))) := fun j w1 hb hj => cell_lowB hb (cell_lt (ck j hj)) (ck j hj)
 have LT : Hid (∀ (j k : Nat), j + k ≤ m.1.length → ((xs0.drop j).take k).length = k ∧ ((m.1.drop j).take k).length = k) := fun j k hj => ⟨by simp; omega, by simp; omega⟩
 have LC : Hid (∀ (j k : Nat), j + k ≤ m.2.length → ((m.2.drop j).take k).length = k) := fun j k hj => by simp; omega
 have KE : Hid (∀ (j k : Nat), j + k ≤ m.1.length → ∀ i, i < k → TreeF d w (fun g => F g ∧ g < w.heap.size) (tvAt ((xs0.drop j).take k) i) (((m.1.drop j).take k).getD i noTr)) := fun j k hj i hi => by
  rw [tvAt_sub hi, getD_sub hi]
  exact HE.out (j + i) (by omega)
 have ON : Hid (∀ (j k : Nat), ∀ y ∈ flatT ((xs0.drop j).take k), y.oneCell' = true) := fun j k => one_take (one_drop hone j) k
 have PG : Hid (∀ g, g = w.heap.size + 1 ∨ g = w.heap.size + 1 + 1 → ¬ ((F g ∧ g < w.heap.size) ∨ w.heap.size + 3 ≤ g) ∧ g < w.heap.size + 3) := fun g hg => ⟨fun k => by rcases k with ⟨_, k⟩ | k <;> omega, by omega⟩
 show Calls Try.prog 57 #[.agg #[.slice (some ⟨b1, off1, none⟩) xs0.length c1, .slice (some ⟨b2, off2, none⟩) m.2.length c2]] w fun e w' => ∃ v1 v2, e = .returned (.agg #[v1, v2]) ∧ TreesF (d + 1) w' (fun b => F b ∨ w.heap.size ≤ b) v1 (pkT m 0) ∧ RowF w' (fun b => F b ∨ w.heap.size ≤ b) v2 (pkC m 0).length (flatI (pkC m 0)) ∧ Below w.heap.size w w'
 rw [hxl]
 rw [hxl] at hcap1
 clear HT HC ck hone HE
 generalize hT0 : pkT m 0 = T0 at *
 generalize hC0 : pkC m 0 = C0 at *
 have T00 : Hid (pkT m 0 = T0) := hT0
 have C00 : Hid (pkC m 0 = C0) := hC0
 clear hT0 hC0 hxl
 generalize hn1 : m.1.length = n1 at *
 generalize hn2 : m.2.length = n2 at *
 have B0 : Hid (Below w.heap.size w (((w.alloc (.cells #[.slice (some ⟨b1, off1, none⟩) n1 c1, .slice (some ⟨b2, off2, none⟩) n2 c2] 95)).alloc (.cells #[.slice none 0 0, .slice none 0 0] 95)).alloc (.cells #[.slice none 0 0, .slice none 0 0] 95))) := al3 _ _ _ _
 have X0 : Hid (BoxM (((w.alloc (.cells #[.slice (some ⟨b1, off1, none⟩) n1 c1, .slice (some ⟨b2, off2, none⟩) n2 c2] 95)).alloc (.cells #[.slice none 0 0, .slice none 0 0] 95)).alloc (.cells #[.slice none 0 0, .slice none 0 0] 95)) w.heap.size #[.slice (some ⟨b1, off1, none⟩) n1 c1, .slice (some ⟨b2, off2, none⟩) n2 c2]) := ((BoxM.start w _).alloc _).alloc _
 have X1 : Hid (BoxM (((w.alloc (.cells #[.slice (some ⟨b1, off1, none⟩) n1 c1, .slice (some ⟨b2, off2, none⟩) n2 c2] 95)).alloc (.cells #[.slice none 0 0, .slice none 0 0] 95)).alloc (.cells #[.slice none 0 0, .slice none 0 0] 95)) (w.heap.size + 1) #[.slice none 0 0, .slice none 0 0]) := by
  have := (BoxM.start (w.alloc (.cells #[.slice (some ⟨b1, off1, none⟩) n1 c1, .slice (some ⟨b2, off2, none⟩) n2 c2] 95)) #[.slice none 0 0, .slice none 0 0]).alloc (.cells #[.slice none 0 0, .slice none 0 0] 95)
  rw [World.size_alloc] at this
  exact this
 have X2 : Hid (BoxM (((w.alloc (.cells #[.slice (some ⟨b1, off1, none⟩) n1 c1, .slice (some ⟨b2, off2, none⟩) n2 c2] 95)).alloc (.cells #[.slice none 0 0, .slice none 0 0] 95)).alloc (.cells #[.slice none 0 0, .slice none 0 0] 95)) (w.heap.size + 1 + 1) #[.slice none 0 0, .slice none 0 0]) := by
  have := BoxM.start ((w.alloc (.cells #[.slice (some ⟨b1, off1, none⟩) n1 c1, .slice (some ⟨b2, off2, none⟩) n2 c2] 95)).alloc (.cells #[.slice none 0 0, .slice none 0 0] 95)) #[.slice none 0 0, .slice none 0 0]
  rw [World.size_alloc, World.size_alloc] at this
  exact this
 have Z0 : Hid (w.heap.size + 3 ≤ (((w.alloc (.cells #[.slice (some ⟨b1, off1, none⟩) n1 c1, .slice (some ⟨b2, off2, none⟩) n2 c2] 95)).alloc (.cells #[.slice none 0 0, .slice none 0 0] 95)).alloc (.cells #[.slice none 0 0, .slice none 0 0] 95)).heap.size) := by show _ ≤ _; simp
 go_enter Try.func57, Try.ntmps57
 go_wp2
 refine wp_gen (fun W => BoxM W w.heap.size #[.slice (some ⟨b1, off1, none⟩) n1 c1, .slice (some ⟨b2, off2, none⟩) n2 c2] ∧ BoxM W (w.heap.size + 1) #[.slice none 0 0, .slice none 0 0] ∧ BoxM W (w.heap.size + 1 + 1) #[.slice none 0 0, .slice none 0 0] ∧ Below w.heap.size w W ∧ w.heap.size + 3 ≤ W.heap.size) ⟨X0.out, X1.out, X2.out, B0.out, Z0.out⟩ ?_
 rintro W ⟨Y0, Y1, Y2, YB, YZ⟩
 clear X0 X1 X2 B0 Z0
 go_loopw [5] (fun i wr => ∃ (j : Nat) (ts : List Tr) (cs : List Int) (a1 a2 : Option Addr) (q1 q2 : Nat), i = .int .i64 j ∧ j ≤ n1 ∧ (2 ≤ n1 - j ∨ n1 ≤ j) ∧ ts.length ≤ j ∧ cs.length ≤ j ∧ Hid (ts ++ pkT m j = T0) ∧ Hid (cs ++ pkC m j = C0) ∧ Hid (OutM (d + 1) (w.heap.size + 3) (fun g => (F g ∧ g < w.heap.size) ∨ w.heap.size + 3 ≤ g) wr (.slice a1 ts.length q1) (.slice a2 cs.length q2) ts cs) ∧ Hid (BoxM wr (w.heap.size + 1 + 1) #[.slice a1 ts.length q1, .slice a2 cs.length q2]) ∧ Hid (BoxM wr (w.heap.size + 1) #[.slice none 0 0, .slice none 0 0]) ∧ Hid (BoxM wr w.heap.size #[.slice (some ⟨b1, off1, none⟩) n1 c1, .slice (some ⟨b2, off2, none⟩) n2 c2]) ∧ Hid (Below w.heap.size w wr) ∧ Hid (w.heap.size + 3 ≤ wr.heap.size))
  (fun i _ => n1 - (intOf i).toNat)
 case atStart => exact ⟨0, [], [], none, none, 0, 0, rfl, Nat.zero_le _, by omega, Nat.le_refl _, Nat.le_refl _, T00, C00, OutM.nil _ _ _ _, Y2, Y1, Y0, YB, YZ⟩
 case round =>
  obtain ⟨j, ts, cs, a1, a2, q1, q2, rfl, hjn, hjj, htl, hcl, ET, EC, OM, BX, BR, BM, BW, ZW⟩ := hrel
  clear Y0 Y1 Y2 YB YZ T00 C00
  by_cases hlt : j < n1
  ·have TA1 : Hid _ := TA.out j hlt
   have CA1 : Hid _ := CA.out j hlt
   have PK1 : Hid _ := PK.out j
   have MN1 := MN.out (n1 - j)
   have MM : Hid (n1 - j = 3 → manyN (n1 - j) = 3) := fun h => by show _; rw [h]; exact M3.out
   generalize hM : manyN (n1 - j) = M at *
   have hM' : j + M ≤ n1 := by omega
   have hwk : IntKind.i64.wrap ((n1 : Int) - (j : Int)) = (n1 : Int) - (j : Int) := by rw [IntKind.wrap_i64]; omega
   clear hM
   go_upto_if 17 with fail
   go_cut [6] (fun s6 wx => s6 = .int .i64 (M : Nat) ∧ wx = wr)
   case first =>
    by_cases h3 : n1 - j = 3
    ·have e3 : (((n1 : Int) - (j : Int)) == 3) = true := by rw [beq_iff_eq]; omega
     have hM3 := MM.out h3
     go_wp2
     go_meet
     case rel => exact ⟨by rw [hM3]; rfl, rfl⟩
    ·have e3 : (((n1 : Int) - (j : Int)) == 3) = false := by rw [beq_eq_false_iff_ne]; omega
     have hM2 : M = 2 := by omega
     go_wp2
     go_meet
     case rel => exact ⟨by rw [hM2]; rfl, rfl⟩
   case rest =>
   obtain ⟨rfl, hw⟩ := hcut
   rw [hw]
   clear hw wc
   go_upto_if 19 with fail
   go_cut [6] (fun s6 wx => s6 = .int .i64 (M : Nat) ∧ ∃ (cs' : List Int) (a3 : Option Addr) (q3 : Nat), cs'.length ≤ j + 1 ∧ Hid (cs' ++ pkC m (j + M) = C0) ∧ Hid (OutM (d + 1) (w.heap.size + 3) (fun g => (F g ∧ g < w.heap.size) ∨ w.heap.size + 3 ≤ g) wx (.slice a1 ts.length q1) (.slice a3 cs'.length q3) ts cs') ∧ Hid (BoxM wx (w.heap.size + 1 + 1) #[.slice a1 ts.length q1, .slice a3 cs'.length q3]) ∧ Hid (BoxM wx (w.heap.size + 1) #[.slice none 0 0, .slice none 0 0]) ∧ Hid (BoxM wx w.heap.size #[.slice (some ⟨b1, off1, none⟩) n1 c1, .slice (some ⟨b2, off2, none⟩) n2 c2]) ∧ Hid (Below w.heap.size w wx) ∧ Hid (w.heap.size + 3 ≤ wx.heap.size))
   case first =>
    cases j with
    | zero =>
     have EC' : Hid (cs ++ pkC m (0 + M) = C0) := by
      have h1 := CA1.out
      have h2 := EC.out
      rw [h1] at h2
      show _ = _
      simpa using h2
     go_wp2
     go_meet
     case rel => exact ⟨rfl, cs, a2, q2, by omega, EC', OM, BX, BR, BM, BW, ZW⟩
    | succ j =>
     have EC' : Hid ((cs ++ [iAt m.2 j]) ++ pkC m (j + 1 + M) = C0) := by
      have h1 := CA1.out
      have h2 := EC.out
      rw [h1, if_pos (by omega)] at h2
      show _ = _
      simpa using h2
     have CKj : Hid (∀ w1, Below w.heap.size w w1 → w1.cell? ⟨b2, off2 + j, none⟩ = some (.int .i64 (iAt m.2 j))) := fun w1 hb => CK.out j w1 hb (by omega)
     generalize iAt m.2 j = x1 at *
     have kk := CKj.out wr BW.out
     have hpos : (0 : Int) < ((j + 1 : Nat) : Int) := by omega
     have hpos2 : 0 < j + 1 := by omega
     have hin : j < n2 := by omega
     have hwk2 : IntKind.i64.wrap (j : Int) = (j : Int) := by rw [IntKind.wrap_i64]; omega
     have hb1 : (0 : Int) ≤ (j : Int) := by omega
     have hb2 : (j : Int) < (n2 : Int) := by omega
     have OMd : Hid (OutM (d + 1) (w.heap.size + 3) (fun g => (F g ∧ g < w.heap.size) ∨ w.heap.size + 3 ≤ g) wr.drew (.slice a1 ts.length q1) (.slice a2 cs.length q2) ts cs) := OM.out.drew
     have BXd : Hid (BoxM wr.drew (w.heap.size + 1 + 1) #[.slice a1 ts.length q1, .slice a2 cs.length q2]) := BX.out.drew
     have BRd : Hid (BoxM wr.drew (w.heap.size + 1) #[.slice none 0 0, .slice none 0 0]) := BR.out.drew
     have BMd : Hid (BoxM wr.drew w.heap.size #[.slice (some ⟨b1, off1, none⟩) n1 c1, .slice (some ⟨b2, off2, none⟩) n2 c2]) := BM.out.drew
     have BWd : Hid (Below w.heap.size w wr.drew) := BW.out.drew
     have ZWd : Hid (w.heap.size + 3 ≤ wr.drew.heap.size) := ZW.out
     have hS : wr.drew.cell? ⟨w.heap.size + 1 + 1, 1, none⟩ = some (.slice a2 cs.length q2) ∧ wr.drew.cell? ⟨w.heap.size, 1, none⟩ = some (.slice (some ⟨b2, off2, none⟩) n2 c2) ∧ wr.drew.cell? ⟨b2, off2 + j, none⟩ = some (.int .i64 x1) := ⟨BX.out.two.2, BM.out.two.2, kk⟩
     clear OM BX BR BM BW ZW kk ET TA1 CA1 EC MM PK1
     go_wp2_with fail
     refine wp_region_last (fun w' => w'.cell? ⟨w.heap.size + 1 + 1, 1, none⟩ = some (.slice a2 cs.length q2) ∧ w'.cell? ⟨w.heap.size, 1, none⟩ = some (.slice (some ⟨b2, off2, none⟩) n2 c2) ∧ w'.cell? ⟨b2, off2 + j, none⟩ = some (.int .i64 x1)) [_, _, _, _, _, _, _, _, _, _, _] _ rfl (by kernel_rfl) (by kernel_rfl) ?_
     generalize wr.drew = wd at *
     refine tq 0 rfl (by kernel_rfl) (fun _ _ _ h => h) (by assumption) rfl (by intro w h; go_simp <;> with_reducible rfl) ?_
     try simp only [Act.put, sA, sB, sC]
     refine tq 1 rfl (by kernel_rfl) (fun _ _ _ h => h) (by assumption) rfl (by intro w h; go_simp <;> with_reducible rfl) ?_
     try simp only [Act.put, sA, sB, sC]
     refine tq 2 rfl (by kernel_rfl) (fun _ _ _ h => h) (by assumption) rfl (by intro w h; go_simp <;> with_reducible rfl) ?_
     try simp only [Act.put, sA, sB, sC]
     refine tq 3 rfl (by kernel_rfl) (fun _ _ _ h => h) (by assumption) rfl (by intro w h; go_simp <;> with_reducible rfl) ?_
     try simp only [Act.put, sA, sB, sC]
     refine tq 4 rfl (by kernel_rfl) (fun _ _ _ h => h) (by assumption) rfl (by intro w h; go_simp <;> with_reducible rfl) ?_
     try simp only [Act.put, sA, sB, sC]
     refine tq 5 rfl (by kernel_rfl) (fun _ _ _ h => h) (by assumption) rfl (by intro w h; go_simp <;> with_reducible rfl) ?_
     try simp only [Act.put, sA, sB, sC]
     refine tq 6 rfl (by kernel_rfl) (fun _ _ _ h => h) (by assumption) rfl (by intro w h; go_simp <;> with_reducible rfl) ?_
     try simp only [Act.put, sA, sB, sC]
     refine tq 7 rfl (by kernel_rfl) (fun _ _ _ h => h) (by assumption) rfl (by intro w h; go_simp <;> with_reducible rfl) ?_
     try simp only [Act.put, sA, sB, sC]
     refine rq 8 (by kernel_rfl) rfl (fun K hK => ?_)
     go_simp
     refine hK.out _ _ ⟨cell_lowB (al1 wd _) (cell_lt hS.1) hS.1, cell_lowB (al1 wd _) (cell_lt hS.2.1) hS.2.1, cell_lowB (al1 wd _) (cell_lt hS.2.2) hS.2.2⟩ (fun hH => ?_)
     clear hK K
     try simp only [Act.put, sA, sB, sC]
     refine rq 9 (by kernel_rfl) rfl (fun K hK => ?_)
     have HR1 : Hid _ := room_of (n := cs.length) (bytes := 8) (by omega) (by decide)
     refine step_appE (wd.alloc (.cells #[.int .i64 x1] 3)) rfl _ _ 50 rfl (w.heap.size + 3) 3 j0 _ 1 8 Try.underlying50 hj0' hy0 hy1 hy2 rfl (by decide) (.slice a2 cs.length q2) cs.length (flatI cs) rfl (OMd.out.alloc _).rowC (.slice (some ⟨wd.heap.size, 0, none⟩) 1 1) 1 (flatI [x1]) rfl (Row.laid wd (flatI [x1]) 3 _ rfl) rfl (flatI_one _) HR1.out.1 HR1.out.2 (by simp; have := ZWd.out; omega) ?_
     intro v5 w5 A5
     have OM5 : OutM (d + 1) (w.heap.size + 3) (fun g => (F g ∧ g < w.heap.size) ∨ w.heap.size + 3 ≤ g) w5 (.slice a1 ts.length q1) v5 ts (cs ++ [x1]) := (OMd.out.alloc _).addC (ds := [x1]) A5
     obtain ⟨_, _, a3, q3, _, hv5⟩ := OM5.shape
     subst hv5
     have CH : Chg (wrB (.slice a2 cs.length q2)) wd w5 := ((Chg.refl _ _).alloc _).trans A5.2.1 (fun _ _ h => h)
     have NW : ∀ g, wrB (.slice a2 cs.length q2) g → w.heap.size + 3 ≤ g := fun g hg => (OMd.out.rowC.lt g hg).1
     have BX5 : Hid (BoxM w5 (w.heap.size + 1 + 1) #[.slice a1 ts.length q1, .slice a2 cs.length q2]) := BXd.out.chg CH (fun h => by have := NW _ h; omega)
     have BR5 : Hid (BoxM w5 (w.heap.size + 1) #[.slice none 0 0, .slice none 0 0]) := BRd.out.chg CH (fun h => by have := NW _ h; omega)
     have BM5 : Hid (BoxM w5 w.heap.size #[.slice (some ⟨b1, off1, none⟩) n1 c1, .slice (some ⟨b2, off2, none⟩) n2 c2]) := BMd.out.chg CH (fun h => by have := NW _ h; omega)
     have BW5 : Hid (Below w.heap.size w w5) := BWd.out.trans (CH.below (fun g _ hg => by have := NW g hg; omega) (by have := ZWd.out; omega))
     have ZW5 : Hid (w.heap.size + 3 ≤ w5.heap.size) := Nat.le_trans ZWd.out CH.size
     have OM5' : Hid _ := OM5
     have kk := CKj.out w5 BW5.out
     obtain ⟨m0, m1⟩ := BX5.out.two
     obtain ⟨f0, f1⟩ := BX5.out.free
     have m2 := BM5.out.two.2
     clear A5 OM5 CH NW hS hH
     refine hK.out _ _ ⟨m1, m2, kk⟩ (fun hH => ?_)
     clear hK K
     try simp only [Act.put, sA, sB, sC]
     refine tq 10 rfl (by kernel_rfl) (fun _ _ _ h => h) (by assumption) rfl (by intro w h; go_simp <;> with_reducible rfl) ?_
     try simp only [Act.put, sA, sB, sC]
     refine wpAnyH_done (by kernel_rfl) ?_ _
     show Oper.wp _ _ _ _ _ _
     go_simp
     have FIN : Hid (∀ v, OutM (d + 1) (w.heap.size + 3) (fun g => (F g ∧ g < w.heap.size) ∨ w.heap.size + 3 ≤ g) (w5.setCell ⟨w.heap.size + 1 + 1, 1, none⟩ v) (.slice a1 ts.length q1) (.slice a3 (cs ++ [x1]).length q3) ts (cs ++ [x1]) ∧ BoxM (w5.setCell ⟨w.heap.size + 1 + 1, 1, none⟩ v) (w.heap.size + 1) #[.slice none 0 0, .slice none 0 0] ∧ BoxM (w5.setCell ⟨w.heap.size + 1 + 1, 1, none⟩ v) w.heap.size #[.slice (some ⟨b1, off1, none⟩) n1 c1, .slice (some ⟨b2, off2, none⟩) n2 c2] ∧ Below w.heap.size w (w5.setCell ⟨w.heap.size + 1 + 1, 1, none⟩ v) ∧ w.heap.size + 3 ≤ (w5.setCell ⟨w.heap.size + 1 + 1, 1, none⟩ v).heap.size) := fun v =>
      ⟨OutM.chg OM5'.out (chg_set1 w5 (w.heap.size + 1 + 1) 1 v) (fun g hg => PG.out g (.inr hg)), BR5.out.chg (chg_set1 w5 (w.heap.size + 1 + 1) 1 v) (by omega), BM5.out.chg (chg_set1 w5 (w.heap.size + 1 + 1) 1 v) (by omega), BW5.out.setCell (p := ⟨w.heap.size + 1 + 1, 1, none⟩) (by show w.heap.size ≤ w.heap.size + 1 + 1; omega) _, by simpa using ZW5.out⟩
     clear m0 m1 m2 f0 f1 hH kk
     go_wp2_with fail
     go_meet
     case rel => exact ⟨rfl, cs ++ [x1], a3, q3, by simp; omega, EC', (FIN.out _).1, (by have := BX5.out.set1 (.slice a3 (cs.length + 1) q3); rw [show (cs ++ [x1]).length = cs.length + 1 by simp]; exact this), (FIN.out _).2.1, (FIN.out _).2.2.1, (FIN.out _).2.2.2.1, (FIN.out _).2.2.2.2⟩
   case rest =>
   obtain ⟨rfl, cs', a3, q3, hcl', EC2, OM2, BX2, BR2, BM2, BW2, ZW2⟩ := hcut
   have OMd : Hid (OutM (d + 1) (w.heap.size + 3) (fun g => (F g ∧ g < w.heap.size) ∨ w.heap.size + 3 ≤ g) wc.drew (.slice a1 ts.length q1) (.slice a3 cs'.length q3) ts cs') := OM2.out.drew
   have BXd : Hid (BoxM wc.drew (w.heap.size + 1 + 1) #[.slice a1 ts.length q1, .slice a3 cs'.length q3]) := BX2.out.drew
   have BRd : Hid (BoxM wc.drew (w.heap.size + 1) #[.slice none 0 0, .slice none 0 0]) := BR2.out.drew
   have BMd : Hid (BoxM wc.drew w.heap.size #[.slice (some ⟨b1, off1, none⟩) n1 c1, .slice (some ⟨b2, off2, none⟩) n2 c2]) := BM2.out.drew
   have BWd : Hid (Below w.heap.size w wc.drew) := BW2.out.drew
   have ZWd : Hid (w.heap.size + 3 ≤ wc.drew.heap.size) := ZW2.out
   have hS : wc.drew.cell? ⟨w.heap.size + 1 + 1, 0, none⟩ = some (.slice a1 ts.length q1) ∧ wc.drew.cell? ⟨w.heap.size, 0, none⟩ = some (.slice (some ⟨b1, off1, none⟩) n1 c1) ∧ wc.drew.cell? ⟨w.heap.size, 1, none⟩ = some (.slice (some ⟨b2, off2, none⟩) n2 c2) := ⟨BX2.out.two.1, BM2.out.two.1, BM2.out.two.2⟩
   have KA : Hid (∀ (u : World) (o : Obj), (u.cell? ⟨w.heap.size + 1 + 1, 0, none⟩ = some (.slice a1 ts.length q1) ∧ u.cell? ⟨w.heap.size, 0, none⟩ = some (.slice (some ⟨b1, off1, none⟩) n1 c1) ∧ u.cell? ⟨w.heap.size, 1, none⟩ = some (.slice (some ⟨b2, off2, none⟩) n2 c2)) → ((u.alloc o).cell? ⟨w.heap.size + 1 + 1, 0, none⟩ = some (.slice a1 ts.length q1) ∧ (u.alloc o).cell? ⟨w.heap.size, 0, none⟩ = some (.slice (some ⟨b1, off1, none⟩) n1 c1) ∧ (u.alloc o).cell? ⟨w.heap.size, 1, none⟩ = some (.slice (some ⟨b2, off2, none⟩) n2 c2))) := fun u o h => ⟨cell_lowB (al1 u o) (cell_lt h.1) h.1, cell_lowB (al1 u o) (cell_lt h.2.1) h.2.1, cell_lowB (al1 u o) (cell_lt h.2.2) h.2.2⟩
   have hcj : ¬ c1 = j := by omega
   have hcj2 : ¬ c2 = j := by omega
   have hjm : ((j : Int) + (M : Int)).toNat = j + M := by omega
   have hwj : IntKind.i64.wrap ((j : Int) + (M : Int)) = (j : Int) + (M : Int) := by rw [IntKind.wrap_i64]; omega
   have hwj2 : IntKind.i64.wrap ((j : Int) + (M : Int) - 1) = (j : Int) + (M : Int) - 1 := by rw [IntKind.wrap_i64]; omega
   have hjm2 : ((j : Int) + (M : Int) - 1).toNat = j + M - 1 := by omega
   have hjm3 : j + M - 1 - j = M - 1 := by omega
   have hb1 : (0 : Int) ≤ (j : Int) := by omega
   have hb2 : (j : Int) ≤ (j : Int) + (M : Int) := by omega
   have hb3 : (j : Int) + (M : Int) ≤ (c1 : Int) := by omega
   have hb4 : (j : Int) ≤ (j : Int) + (M : Int) - 1 := by omega
   have hb5 : (j : Int) + (M : Int) - 1 ≤ (c2 : Int) := by omega
   have hMM := MM.out
   have LTj := LT.out j M hM'
   have LCj := LC.out j (M - 1) (by omega)
   have RTj : Hid (∀ w1, Below w.heap.size w w1 → Row w1 (.slice (some ⟨b1, off1 + j * 5, none⟩) M (c1 - j)) M (flatT ((xs0.drop j).take M))) := fun w1 hb => RT.out j M w1 hb hM' (by omega)
   have RCj : Hid (∀ w1, Below w.heap.size w w1 → Row w1 (.slice (some ⟨b2, off2 + j, none⟩) (M - 1) (c2 - j)) (M - 1) (flatI ((m.2.drop j).take (M - 1)))) := fun w1 hb => RC.out j (M - 1) w1 hb (by omega) (by omega)
   have KEj : Hid _ := KE.out j M hM'
   have ONj : Hid _ := ON.out j M
   have ET2 : Hid ((ts ++ [packT m j]) ++ pkT m (j + M) = T0) := by
    have h1 := TA1.out
    have h2 := ET.out
    rw [h1] at h2
    show _ = _
    simpa using h2
   clear OM2 BX2 BR2 BM2 BW2 ZW2 OM BX BR BM BW ZW TA1 CA1 ET EC MM CK TA CA RT RC LT LC KE ON
   generalize (xs0.drop j).take M = CT at *
   generalize (m.2.drop j).take (M - 1) = CC at *
   generalize (m.1.drop j).take M = KT at *
   generalize packT m j = PT at *
   obtain ⟨hCT, hKT⟩ := LTj
   have FL : Hid ((flatT CT).length = M * 5) := by show _ = _; rw [flatT_length, hCT]
   have FI : Hid ((flatI CC).length = (M - 1) * 1) := by show _ = _; rw [flatI_length, LCj]; omega
   have FO : Hid (∀ y ∈ flatI CC, y.oneCell' = true) := flatI_one _
   have ZM : Hid (0 + M ≤ maxLen ∧ (0 + M) * 104 ≤ 140737488355328) := ⟨by unfold maxLen; omega, by omega⟩
   have ZI : Hid (0 + (M - 1) ≤ maxLen ∧ (0 + (M - 1)) * 8 ≤ 140737488355328) := ⟨by unfold maxLen; omega, by omega⟩
   have LL : Hid (CT.length = M ∧ KT.length = M ∧ CC.length = M - 1) := ⟨hCT, hKT, LCj⟩
   clear hCT hKT LCj
   go_wp2_with fail
   refine wp_region_last (fun w' => w'.cell? ⟨w.heap.size + 1 + 1, 0, none⟩ = some (.slice a1 ts.length q1) ∧ w'.cell? ⟨w.heap.size, 0, none⟩ = some (.slice (some ⟨b1, off1, none⟩) n1 c1) ∧ w'.cell? ⟨w.heap.size, 1, none⟩ = some (.slice (some ⟨b2, off2, none⟩) n2 c2)) [_, _, _, _, _, _, _, _, _, _, _, _, _, _, _, _, _, _, _, _, _, _, _, _, _] _ rfl (by kernel_rfl) (by kernel_rfl) ?_
   generalize wc.drew = wd at *
   refine tq 0 rfl (by kernel_rfl) (fun _ _ _ h => h) (by assumption) rfl (by intro w h; go_simp <;> with_reducible rfl) ?_
   try simp only [Act.put, sA, sB, sC]
   refine tq 1 rfl (by kernel_rfl) (fun _ _ _ h => h) (by assumption) rfl (by intro w h; go_simp <;> with_reducible rfl) ?_
   try simp only [Act.put, sA, sB, sC]
   refine tq 3 rfl (by kernel_rfl) (fun _ _ _ h => h) (by assumption) rfl (by intro w h; go_simp <;> with_reducible rfl) ?_
   try simp only [Act.put, sA, sB, sC]
   refine tq 4 rfl (by kernel_rfl) (fun _ _ _ h => h) (by assumption) rfl (by intro w h; go_simp <;> with_reducible rfl) ?_
   try simp only [Act.put, sA, sB, sC]
   refine tq 5 rfl (by kernel_rfl) (fun _ _ _ h => h) (by assumption) rfl (by intro w h; go_simp <;> with_reducible rfl) ?_
   try simp only [Act.put, sA, sB, sC]
   refine tq 6 rfl (by kernel_rfl) (fun _ _ _ h => h) (by assumption) rfl (by intro w h; go_simp <;> with_reducible rfl) ?_
   try simp only [Act.put, sA, sB, sC]
   refine tq 7 rfl (by kernel_rfl) (fun _ _ _ h => h) (by assumption) rfl (by intro w h; go_simp <;> with_reducible rfl) ?_
   try simp only [Act.put, sA, sB, sC]
   refine tq 8 rfl (by kernel_rfl) (fun _ _ _ h => h) (by assumption) rfl (by intro w h; go_simp <;> with_reducible rfl) ?_
   try simp only [Act.put, sA, sB, sC]
   refine tq 9 rfl (by kernel_rfl) (fun _ _ _ h => h) (by assumption) rfl (by intro w h; go_simp <;> with_reducible rfl) ?_
   try simp only [Act.put, sA, sB, sC]
   refine tq 12 rfl (by kernel_rfl) (fun _ _ _ h => h) (by assumption) rfl (by intro w h; go_simp <;> with_reducible rfl) ?_
   try simp only [Act.put, sA, sB, sC]
   refine tq 13 rfl (by kernel_rfl) (fun _ _ _ h => h) (by assumption) rfl (by intro w h; go_simp <;> with_reducible rfl) ?_
   try simp only [Act.put, sA, sB, sC]
   refine tq 14 rfl (by kernel_rfl) (fun _ _ _ h => h) (by assumption) rfl (by intro w h; go_simp <;> with_reducible rfl) ?_
   try simp only [Act.put, sA, sB, sC]
   refine tq 15 rfl (by kernel_rfl) (fun _ _ _ h => h) (by assumption) rfl (by intro w h; go_simp <;> with_reducible rfl) ?_
   try simp only [Act.put, sA, sB, sC]
   refine tq 16 rfl (by kernel_rfl) (fun _ _ _ h => h) (by assumption) rfl (by intro w h; go_simp <;> with_reducible rfl) ?_
   try simp only [Act.put, sA, sB, sC]
   refine tq 17 rfl (by kernel_rfl) (fun _ _ _ h => h) (by assumption) rfl (by intro w h; go_simp <;> with_reducible rfl) ?_
   try simp only [Act.put, sA, sB, sC]
   refine tq 18 rfl (by kernel_rfl) (fun _ _ _ h => h) (by assumption) rfl (by intro w h; go_simp <;> with_reducible rfl) ?_
   try simp only [Act.put, sA, sB, sC]
   refine tq 19 rfl (by kernel_rfl) (fun _ _ _ h => h) (by assumption) rfl (by intro w h; go_simp <;> with_reducible rfl) ?_
   try simp only [Act.put, sA, sB, sC]
   refine wpR.held ?_ (by assumption)
   refine wpR_take (i := 2) (oi := ⟨_, _, _, _, _, _⟩) (fun v => ∃ g, v = .slice (some ⟨g, 0, none⟩) 0 0) rfl (by kernel_rfl) (by kernel_rfl) (by kernel_rfl) (fun _ _ _ _ h => h) (fun u hu => ⟨.slice (some ⟨u.heap.size, 0, none⟩) 0 0, u.alloc (.cells #[] 54), (by go_simp), ⟨_, rfl⟩, al1 _ _, KA.out u _ hu⟩) ?_
   rintro _ ⟨g1, rfl⟩
   try simp only [Act.put, sA, sB, sC]
   refine wpR_take (i := 11) (oi := ⟨_, _, _, _, _, _⟩) (fun v => ∃ g, v = .slice (some ⟨g, 0, none⟩) 0 0) rfl (by kernel_rfl) (by kernel_rfl) (by kernel_rfl) (fun _ _ _ _ h => h) (fun u hu => ⟨.slice (some ⟨u.heap.size, 0, none⟩) 0 0, u.alloc (.cells #[] 3), (by go_simp), ⟨_, rfl⟩, al1 _ _, KA.out u _ hu⟩) ?_
   rintro _ ⟨g2, rfl⟩
   try simp only [Act.put, sA, sB, sC]
   refine wpR_one (i := 10) (o := ⟨_, _, _, _, _, _⟩) (by kernel_rfl) rfl (fun u1 hu1 su1 K hK => ?_)
   have hB1 := Below.and BWd.out hu1
   refine step_appE u1 rfl _ _ 51 rfl (w.heap.size + 3) 54 i0 _ 5 104 Try.underlying51 hi0 hz0 hz1 hz2 rfl (by decide) (.slice (some ⟨g1, 0, none⟩) 0 0) 0 [] rfl (OwnE.zero _ _ _ _ _) (.slice (some ⟨b1, off1 + j * 5, none⟩) M (c1 - j)) M (flatT CT) rfl (RTj.out _ hB1) FL.out ONj.out ZM.out.1 ZM.out.2 (Nat.le_trans ZWd.out hu1.size) ?_
   intro v10 w10 A10
   have L10 := hid (Below.and hu1 (A10.2.1.below (fun g _ h => absurd h (wrB_zero _ _)) (Nat.le_refl _)))
   have N10 := hid (fun g (hg : wrB v10 g) => (A10.2.2.2 g hg).elim (fun h => absurd h (wrB_zero _ _)) (fun h => Nat.le_trans hu1.size h))
   have O10' := A10.1
   rw [Nat.zero_add, List.nil_append] at O10'
   obtain ⟨a10, q10, hv⟩ := O10'.slice
   subst hv
   have O10 := hid (O10')
   have hS' : _ ∧ _ ∧ _ := ⟨cell_lowB L10.out (cell_lt hS.1) hS.1, cell_lowB L10.out (cell_lt hS.2.1) hS.2.1, cell_lowB L10.out (cell_lt hS.2.2) hS.2.2⟩
   clear A10 O10' hB1 hu1 su1
   refine hK.out _ _ hS' ?_
   clear hK K
   try simp only [Act.put, sA, sB, sC]
   clear hS'
   refine wpR_one (i := 20) (o := ⟨_, _, _, _, _, _⟩) (by kernel_rfl) rfl (fun u2 hu2 su2 K hK => ?_)
   have hL2 : Below wd.heap.size wd u2 := Below.and L10.out hu2
   refine step_appE u2 rfl _ _ 50 rfl (w.heap.size + 3) 3 j0 _ 1 8 Try.underlying50 hj0' hy0 hy1 hy2 rfl (by decide) (.slice (some ⟨g2, 0, none⟩) 0 0) 0 [] rfl (OwnE.zero _ _ _ _ _) (.slice (some ⟨b2, off2 + j, none⟩) (M - 1) (c2 - j)) (M - 1) (flatI CC) rfl (RCj.out _ (Below.and BWd.out hL2)) FI.out FO.out ZI.out.1 ZI.out.2 (Nat.le_trans ZWd.out hL2.size) ?_
   intro v20 w20 A20
   have L20 := hid (Below.and hL2 (A20.2.1.below (fun g _ h => absurd h (wrB_zero _ _)) (Nat.le_refl _)))
   have N20 := hid (fun g (hg : wrB v20 g) => (A20.2.2.2 g hg).elim (fun h => absurd h (wrB_zero _ _)) (fun h => Nat.le_trans hL2.size h))
   have O20' := A20.1
   rw [Nat.zero_add, List.nil_append] at O20'
   have R10 := hid ((next_row O10.out hu2 A20).1)
   obtain ⟨a20, q20, hv⟩ := O20'.slice
   subst hv
   have O20 := hid (O20')
   have hS' : _ ∧ _ ∧ _ := ⟨cell_lowB L20.out (cell_lt hS.1) hS.1, cell_lowB L20.out (cell_lt hS.2.1) hS.2.1, cell_lowB L20.out (cell_lt hS.2.2) hS.2.2⟩
   clear A20 O20' hL2 hu2 su2 O10 L10
   refine hK.out _ _ hS' ?_
   clear hK K
   try simp only [Act.put, sA, sB, sC]
   clear hS'
   refine wpR_one (i := 21) (o := ⟨_, _, _, _, _, _⟩) (by kernel_rfl) rfl (fun u3 hu3 su3 K hK => ?_)
   go_simp
   refine hK.out _ _ (by assumption) ?_
   clear hK K
   try simp only [Act.put, sA, sB, sC]
   refine wpR_one (i := 22) (o := ⟨_, _, _, _, _, _⟩) (by kernel_rfl) rfl (fun u4 hu4 su4 K hK => ?_)
   go_simp
   refine hK.out _ _ (KA.out _ _ (by assumption)) ?_
   clear hK K
   try simp only [Act.put, sA, sB, sC]
   refine wpR_one (i := 23) (o := ⟨_, _, _, _, _, _⟩) (by kernel_rfl) rfl (fun u5 hu5 su5 K hK => ?_)
   have hL4 : Below wd.heap.size wd u4 := Below.and L20.out (Below.and hu3 hu4)
   have hL5 : Below wd.heap.size wd u5 := Below.and hL4 (Below.and (al1 u4 _) hu5)
   have h25 : Below w20.heap.size w20 u5 := Below.and (Below.and hu3 hu4) (Below.and (al1 u4 _) hu5)
   obtain ⟨xs, y1, y2, y3, y4, y5⟩ := OMd.out.below hL5
   have HR1 : Hid _ := room_of (n := xs.length) (bytes := 104) (by omega) (by decide)
   have P10 : OwnE u5 (w.heap.size + 3) 54 5 (.slice a10 M q10) M (flatT CT) := R10.out.below h25
   have P20 : OwnE u5 (w.heap.size + 3) 3 1 (.slice a20 (M - 1) q20) (M - 1) (flatI CC) := O20.out.below h25
   have NT : ∀ g, wrB (.slice a1 ts.length q1) g → g < wd.heap.size ∧ w.heap.size + 3 ≤ g := fun g hg => by
    obtain ⟨xs', z1, z2, z3, z4, z5⟩ := OMd.out
    exact ⟨(z2.lt g hg).2, (z2.lt g hg).1⟩
   have NC : ∀ g, wrB (.slice a3 cs'.length q3) g → g < wd.heap.size ∧ w.heap.size + 3 ≤ g := fun g hg => by
    obtain ⟨xs', z1, z2, z3, z4, z5⟩ := OMd.out
    exact ⟨(z3.lt g hg).2, (z3.lt g hg).1⟩
   have hB5 : Below w.heap.size w u5 := Below.and BWd.out hL5
   have NEW : TreeF (d + 1) u5 (offB (fun g => (F g ∧ g < w.heap.size) ∨ w.heap.size + 3 ≤ g) (.slice a1 ts.length q1) (.slice a3 cs'.length q3)) ⟨false, .slice none 0 0, .slice a20 (M - 1) q20, .slice a10 M q10, .slice none 0 0⟩ PT := by
    rw [PK1.out]
    refine TreeF.mk rfl (RowF.nil _ _) ?_ (RowF.nil _ _) ?_
    ·show RowF u5 _ (.slice a20 (M - 1) q20) CC.length (flatI CC)
     rw [LL.out.2.2]
     exact P20.rowF.mono fun g hg => ⟨.inr (P20.lt g hg).1, fun h => by have := N20.out g hg; have := NT g h; omega, fun h => by have := N20.out g hg; have := NC g h; omega⟩
    ·refine ⟨CT, by rw [LL.out.1, LL.out.2.1], ?_, fun i hi => ?_⟩
     ·show RowF u5 _ (.slice a10 M q10) CT.length (flatT CT)
      rw [LL.out.1]
      exact P10.rowF.mono fun g hg => ⟨.inr (P10.lt g hg).1, fun h => by have := N10.out g hg; have := NT g h; omega, fun h => by have := N10.out g hg; have := NC g h; omega⟩
     ·rw [LL.out.1] at hi
      exact ((KEj.out i hi).frame (fun g hg _ => hB5.block g hg.2)).mono fun g hg => ⟨.inl hg, fun h => by have := NT g h; omega, fun h => by have := NC g h; omega⟩
   refine step_appE u5 rfl _ _ 51 rfl (w.heap.size + 3) 54 i0 _ 5 104 Try.underlying51 hi0 hz0 hz1 hz2 rfl (by decide) (.slice a1 ts.length q1) xs.length (flatT xs) rfl y2 (.slice (some ⟨u4.heap.size, 0, none⟩) 1 1) 1 (flatT [⟨false, .slice none 0 0, .slice a20 (M - 1) q20, .slice a10 M q10, .slice none 0 0⟩]) rfl ((Row.laid u4 (flatT [⟨false, .slice none 0 0, .slice a20 (M - 1) q20, .slice a10 M q10, .slice none 0 0⟩]) 54 _ rfl).below hu5) rfl tv_one HR1.out.1 HR1.out.2 (Nat.le_trans ZWd.out hL5.size) ?_
   intro v5 w5 A5
   have OM5 : OutM (d + 1) (w.heap.size + 3) (fun g => (F g ∧ g < w.heap.size) ∨ w.heap.size + 3 ≤ g) w5 v5 (.slice a3 cs'.length q3) (ts ++ [PT]) cs' := OutM.addT (us := [PT]) ⟨xs, y1, y2, y3, y4, y5⟩ rfl rfl (fun i hi => by
    have hi0 : i = 0 := by simp at hi; omega
    subst hi0
    exact NEW) y1 y5 A5
   obtain ⟨a5, q5, _, _, hv5, _⟩ := OM5.shape
   subst hv5
   have CHG : Chg (wrB (.slice a1 ts.length q1)) wd w5 := (Chg.of_below (F := wrB (.slice a1 ts.length q1)) hL5).trans A5.2.1 (fun _ _ h => h)
   have BX5 := hid (BXd.out.chg CHG (fun h => by have := NT _ h; omega))
   have BR5 := hid (BRd.out.chg CHG (fun h => by have := NT _ h; omega))
   have BM5 := hid (BMd.out.chg CHG (fun h => by have := NT _ h; omega))
   have BW5 := hid (BWd.out.trans (CHG.below (fun g _ hg => by have := NT g hg; omega) (by have := ZWd.out; omega)))
   have ZW5 := hid (Nat.le_trans ZWd.out CHG.size)
   have OM5' : Hid _ := OM5
   obtain ⟨m0, m1⟩ := BX5.out.two
   obtain ⟨m2, m3⟩ := BM5.out.two
   clear A5 OM5 CHG NT NC y1 y2 y3 y4 y5 NEW P10 P20 hL4 hL5 h25 hB5 hS su3 su4 su5 hu3 hu4 hu5 OMd BXd BRd BMd BWd ZWd KEj RTj RCj ONj N10 N20 R10 O20 L20 HR1
   refine hK.out _ _ ⟨m0, m2, m3⟩ ?_
   clear hK K
   try simp only [Act.put, sA, sB, sC]
   clear m0 m1 m2 m3
   refine wpR_one (i := 24) (o := ⟨_, _, _, _, _, _⟩) (by kernel_rfl) rfl (fun u6 hu6 su6 K hK => ?_)
   go_simp
   refine hK.out _ _ (by assumption) ?_
   clear hK K
   try simp only [Act.put, sA, sB, sC]
   refine wpR_done (by kernel_rfl) (fun u7 hu7 su7 => ?_) _
   show Oper.wp _ _ _ _ _ _
   have h7 : Below w5.heap.size w5 u7 := Below.and hu6 hu7
   have BX7 := hid (BX5.out.step h7 BX5.out.lt)
   obtain ⟨m0, m1⟩ := BX7.out.two
   obtain ⟨f0, f1⟩ := BX7.out.free
   have FIN : Hid (∀ v, OutM (d + 1) (w.heap.size + 3) (fun g => (F g ∧ g < w.heap.size) ∨ w.heap.size + 3 ≤ g) (u7.setCell ⟨w.heap.size + 1 + 1, 0, none⟩ v) (.slice a5 (ts ++ [PT]).length q5) (.slice a3 cs'.length q3) (ts ++ [PT]) cs' ∧ BoxM (u7.setCell ⟨w.heap.size + 1 + 1, 0, none⟩ v) (w.heap.size + 1) #[.slice none 0 0, .slice none 0 0] ∧ BoxM (u7.setCell ⟨w.heap.size + 1 + 1, 0, none⟩ v) w.heap.size #[.slice (some ⟨b1, off1, none⟩) n1 c1, .slice (some ⟨b2, off2, none⟩) n2 c2] ∧ Below w.heap.size w (u7.setCell ⟨w.heap.size + 1 + 1, 0, none⟩ v) ∧ w.heap.size + 3 ≤ (u7.setCell ⟨w.heap.size + 1 + 1, 0, none⟩ v).heap.size) := fun v =>
    ⟨OutM.chg (OutM.below OM5'.out h7) (chg_set1 u7 (w.heap.size + 1 + 1) 0 v) (fun g hg => PG.out g (.inr hg)), (BR5.out.step h7 BR5.out.lt).chg (chg_set1 u7 (w.heap.size + 1 + 1) 0 v) (by omega), (BM5.out.step h7 BM5.out.lt).chg (chg_set1 u7 (w.heap.size + 1 + 1) 0 v) (by omega), (Below.and BW5.out h7).setCell (p := ⟨w.heap.size + 1 + 1, 0, none⟩) (by show w.heap.size ≤ w.heap.size + 1 + 1; omega) _, by have := Nat.le_trans ZW5.out h7.size; simpa using this⟩
   clear h7 hu6 hu7 su6 su7 OM5' BR5 BM5 BX5 BW5 ZW5 KA
   go_simp
   clear m0 m1 f0 f1
   go_wp2
   go_roundw
   case rel => exact ⟨j + M, ts ++ [PT], cs', a5, a3, q5, q3, by go_num, hM', by omega, by simp; omega, by omega, ET2, EC2, (FIN.out _).1, (by have := BX7.out.set0 (.slice a5 (ts.length + 1) q5); rw [show (ts ++ [PT]).length = ts.length + 1 by simp]; exact this), (FIN.out _).2.1, (FIN.out _).2.2.1, (FIN.out _).2.2.2.1, (FIN.out _).2.2.2.2⟩
   case measure => simp [intOf]; omega
  ·have hTE := TE.out j hlt
   have hCE := CE.out j hlt
   have E1 : Hid (ts = T0) := by
    have := ET.out
    rw [hTE, List.append_nil] at this
    exact this
   have E2 : Hid (cs = C0) := by
    have := EC.out
    rw [hCE, List.append_nil] at this
    exact this
   clear hTE hCE ET EC TE CE TA CA CK RT RC LT LC KE
   obtain ⟨l0, l1⟩ := BX.out.two
   obtain ⟨r0, r1⟩ := BR.out.two
   obtain ⟨r2, r3⟩ := BR.out.free
   have FIN : Hid (∀ v v', OutM (d + 1) (w.heap.size + 3) (fun g => (F g ∧ g < w.heap.size) ∨ w.heap.size + 3 ≤ g) (set2 wr (w.heap.size + 1) v v') (.slice a1 ts.length q1) (.slice a2 cs.length q2) ts cs ∧ Below w.heap.size w (set2 wr (w.heap.size + 1) v v')) := fun v v' =>
    ⟨OM.out.chg (chg_set2 wr (w.heap.size + 1) v v') (fun g hg => PG.out g (.inl hg)), (BW.out.setCell (p := ⟨w.heap.size + 1, 0, none⟩) (Nat.le_succ _) _).setCell (p := ⟨w.heap.size + 1, 1, none⟩) (Nat.le_succ _) _⟩
   clear OM BX BR BM BW ZW
   go_wp2
   refine bodyPost_ret (v := .agg #[.slice a1 ts.length q1, .slice a2 cs.length q2]) (by simp [results, Try.results57, go_sem, r0, r1]) rfl ⟨_, _, rfl, ?_, ?_, (FIN.out _ _).2⟩
   ·rw [← E1.out]
    exact ((FIN.out _ _).1.trees (fun g hg => .inr hg)).1.mono (fun g hg => hg.elim (fun h => .inl h.1) (fun h => .inr (by omega)))
   ·rw [← E2.out]
    exact ((FIN.out _ _).1.trees (fun g hg => .inr hg)).2.mono (fun g hg => hg.elim (fun h => .inl h.1) (fun h => .inr (by omega)))
end
end Go.Proofs.Ytekcnibohikmdaa
