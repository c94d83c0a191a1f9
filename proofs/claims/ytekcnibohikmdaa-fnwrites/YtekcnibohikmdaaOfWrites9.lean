/-
  Contracts of the model's l4At, l4Split.
  Rows of one's own that may be empty without room; appending to them, and where it lies.
-/
import Derived.Test.YtekcnibohikmdaaOfWrites7
import Derived.Test.YtekcnibohikmdaaOfWrites8
namespace Go.Proofs.Ytekcnibohikmdaa
set_option maxRecDepth 100000
set_option maxHeartbeats 8000000
section
open Go.RowKit

def BoxM (w : World) (B : Nat) (A : Array Value) : Prop := w.heap[B]? = some (.cells A 95 (0, 0))
theorem BoxM.start (w : World) (A : Array Value) : BoxM (w.alloc (.cells A 95)) w.heap.size A := heap_alloc_new w _
theorem BoxM.step {u w' : World} {B N : Nat} {A : Array Value} (h : BoxM u B A) (hb : Below N u w') (hN : B < N) : BoxM w' B A := (hb.block B hN).trans h
theorem BoxM.lt {u : World} {B : Nat} {A : Array Value} (h : BoxM u B A) : B < u.heap.size := (Array.getElem?_eq_some_iff.1 h).1
theorem BoxM.cells {u : World} {B : Nat} {A : Array Value} (h : BoxM u B A) : ∀ j, u.cell? ⟨B, j, none⟩ = A[j]? := fun j => cell_of_row u B j A 95 (0, 0) h
theorem BoxM.two {u : World} {B : Nat} {x0 x1 : Value} (h : BoxM u B #[x0, x1]) : u.cell? ⟨B, 0, none⟩ = some x0 ∧ u.cell? ⟨B, 1, none⟩ = some x1 := ⟨by rw [h.cells]; rfl, by rw [h.cells]; rfl⟩
theorem BoxM.free {u : World} {B : Nat} {x0 x1 : Value} (h : BoxM u B #[x0, x1]) : u.frozen? ⟨B, 0, none⟩ = false ∧ u.frozen? ⟨B, 1, none⟩ = false := ⟨frozen_of_row u B 0 _ 95 h, frozen_of_row u B 1 _ 95 h⟩
theorem BoxM.chg {w w' : World} {L : Nat} {A : Array Value} {p : Nat → Prop} (h : BoxM w L A) (hc : Chg p w w') (hp : ¬ p L) : BoxM w' L A :=
 (hc.block L (Array.getElem?_eq_some_iff.1 h).1 hp).trans h
theorem BoxM.alloc {w : World} {L : Nat} {A : Array Value} (h : BoxM w L A) (o : Obj) : BoxM (w.alloc o) L A := h.step ((Below.refl _ _).alloc (Nat.le_refl _) o) h.lt
theorem bel_boxM (w : World) (A : Array Value) : Below w.heap.size w (w.alloc (.cells A 95)) := (Below.refl _ _).alloc (Nat.le_refl _) _

theorem l4At_any (vt vc : Value) (cs : List Int) (x0 : Int) (w : World) (hc : Row w vc cs.length (flatI cs)) :
  Calls Try.prog 71 #[.agg #[vt, vc], .int .i64 x0] w fun e w' => e = .returned (.int .i64 (prefK cs x0 : Nat)) ∧ Below w.heap.size w w' := by
 obtain ⟨a2, b2, off2, q2, rfl, hcap2, hmax2, ha2, cc⟩ := hc.ints
 unfold maxLen at hmax2
 clear hc
 have PK : Hid (∀ n, n ≤ cs.length → (∀ i, i < n → iAt cs i ≤ x0) → (n < cs.length → ¬ iAt cs n ≤ x0) → prefK cs x0 = n) := fun n => prefK_at
 generalize prefK cs x0 = R at *
 generalize hn2 : cs.length = n2 at *
 have B0 : Hid _ := bel_boxM w #[vt, .slice a2 n2 q2]
 have S0 : Hid (BoxM _ w.heap.size _) := BoxM.start w #[vt, .slice a2 n2 q2]
 go_enter Try.func71, Try.ntmps71
 go_wp2
 go_loopw [5] (fun i wr => ∃ k' : Nat, k' ≤ n2 ∧ i = .int .i64 k' ∧ wr = w.alloc (.cells #[vt, .slice a2 n2 q2] 95) ∧ Hid (∀ i, i < k' → iAt cs i ≤ x0))
  (fun i _ => n2 - (intOf i).toNat)
 case atStart => exact ⟨0, Nat.zero_le _, rfl, rfl, fun i hi => absurd hi (Nat.not_lt_zero _)⟩
 case round =>
  obtain ⟨k', hkl, rfl, hwr, ALL⟩ := hrel
  have k0 := S0.out.two
  rw [← hwr] at k0
  obtain ⟨k0, k1⟩ := k0
  by_cases hlt : k' < n2
  ·have hal := ha2 (by omega)
   subst hal
   have d0 := (B0.out.cell (by exact cell_lt (cc k' hlt))).trans (cc k' hlt)
   rw [← hwr] at d0
   have BW : Hid (Below w.heap.size w wr) := by rw [hwr]; exact B0.out
   have WR := hid (hwr)
   clear cc ha2 hwr S0 B0
   by_cases hq : iAt cs k' ≤ x0
   ·have YS := hid (hq)
    go_wp2
    go_roundw
    case rel => exact ⟨k' + 1, by omega, by go_num, WR.out, fun i hi => if h : i < k' then ALL.out i h else by rw [show i = k' by omega]; exact YS.out⟩
    case measure => simp [intOf]; omega
   ·have E : Hid (R = k') := PK.out k' (by omega) ALL.out (fun _ => by omega)
    go_wp2
    go_ret
    exact ⟨ret_int (by rw [E.out]), BW.out⟩
  ·have E : Hid (R = k') := PK.out k' (by omega) ALL.out (fun h => absurd h hlt)
   have BW : Hid (Below w.heap.size w wr) := by rw [hwr]; exact B0.out
   clear cc ha2 hwr S0 B0
   go_wp2
   go_ret
   exact ⟨ret_int (by rw [E.out]), BW.out⟩

theorem l4Split_any (a1 : Option Addr) (n1 q1 : Nat) (vc vb : Value) (cs : List Int) (buf : ML) (i : Nat) (w : World) (hc : Row w vc cs.length (flatI cs)) (hb : Row w vb buf.length (flatM buf)) (hn : buf.length ≤ 2097152) :
  Calls Try.prog 62 #[.agg #[.slice a1 n1 q1, vc], vb, .int .i64 (i : Nat)] w fun e w' => ∃ v1 v2, e = .returned (.tuple #[v1, v2]) ∧ w'.ownsRow w.heap.size 73 3 v1 (mineF cs i buf).length (flatM (mineF cs i buf)) ∧ w'.ownsRow w.heap.size 73 3 v2 (restF cs i buf).length (flatM (restF cs i buf)) ∧ Below w.heap.size w w' := by
 have HC : Hid (∀ (x0 : Int) (w1 : World), Below w.heap.size w w1 → Calls Try.prog 71 #[.agg #[.slice a1 n1 q1, vc], .int .i64 x0] w1 fun e w' => e = .returned (.int .i64 (prefK cs x0 : Nat)) ∧ Below w1.heap.size w1 w') :=
  fun x0 w1 h => l4At_any _ vc cs x0 w1 (hc.below h)
 obtain ⟨a2, b2, off2, q2, rfl, hcap2, hmax2, ha2, cc⟩ := hc.ints
 obtain ⟨a4, b4, off4, q4, rfl, hcap4, hmax4, ha4, e0, e1, e2⟩ := hb.msgs
 obtain ⟨i0, hi0, hz0, hz1, hz2⟩ := info_parts Try.info73
 unfold maxLen at hmax2 hmax4
 clear hc hb cc ha2
 have MS := hid (fun j (hj : j < buf.length) => mineF_succ cs i buf j hj)
 have RS : Hid (∀ j, j < buf.length → restF cs i (buf.take (j + 1)) = if prefK cs (mK buf j) = i then restF cs i (buf.take j) else restF cs i (buf.take j) ++ [(mO buf j, mK buf j, mV buf j)]) := fun j hj => restF_succ cs i buf j hj
 have MF : Hid (mineF cs i (buf.take buf.length) = mineF cs i buf) := by show _ = _; rw [List.take_of_length_le (Nat.le_refl _)]
 have RF : Hid (restF cs i (buf.take buf.length) = restF cs i buf) := by show _ = _; rw [List.take_of_length_le (Nat.le_refl _)]
 have ML1 : Hid (∀ j, (mineF cs i (buf.take j)).length ≤ 2097152) := fun j => Nat.le_trans (mineF_length _ _ _) (Nat.le_trans (List.length_take_le' _ _) hn)
 have RL1 : Hid (∀ j, (restF cs i (buf.take j)).length ≤ 2097152) := fun j => Nat.le_trans (restF_length _ _ _) (Nat.le_trans (List.length_take_le' _ _) hn)
 have M0 : Hid (mineF cs i (buf.take 0) = []) := rfl
 have R0 : Hid (restF cs i (buf.take 0) = []) := rfl
 generalize mineF cs i buf = MM at *
 generalize restF cs i buf = RR at *
 generalize hfm : (fun j => mineF cs i (buf.take j)) = fm at *
 generalize hfr : (fun j => restF cs i (buf.take j)) = fr at *
 have hfm' : ∀ j, mineF cs i (buf.take j) = fm j := fun j => by rw [← hfm]
 have hfr' : ∀ j, restF cs i (buf.take j) = fr j := fun j => by rw [← hfr]
 simp only [hfm', hfr'] at MS RS MF RF ML1 RL1 M0 R0
 clear hfm hfm' hfr hfr'
 generalize cs.length = n2 at *
 generalize hn4 : buf.length = n4 at *
 have E1 : Hid ((((w.alloc (.cells #[.slice a1 n1 q1, .slice a2 n2 q2] 95)).alloc (.cells #[] 73)).alloc (.cells #[] 73)).ownsRow (w.heap.size + 1) 73 3 (.slice (some ⟨w.heap.size + 1, 0, none⟩) 0 0) 0 []) := by
  have := empty_own (w.alloc (.cells #[.slice a1 n1 q1, .slice a2 n2 q2] 95)) (w.heap.size + 1) 73 3 (by simp)
  rw [World.size_alloc] at this
  exact this.alloc _
 have E2 : Hid ((((w.alloc (.cells #[.slice a1 n1 q1, .slice a2 n2 q2] 95)).alloc (.cells #[] 73)).alloc (.cells #[] 73)).ownsRow (w.heap.size + 1) 73 3 (.slice (some ⟨w.heap.size + 1 + 1, 0, none⟩) 0 0) 0 []) := by
  have := empty_own ((w.alloc (.cells #[.slice a1 n1 q1, .slice a2 n2 q2] 95)).alloc (.cells #[] 73)) (w.heap.size + 1) 73 3 (by simp)
  rw [World.size_alloc, World.size_alloc] at this
  exact this
 have B0 : Hid (Below w.heap.size w (((w.alloc (.cells #[.slice a1 n1 q1, .slice a2 n2 q2] 95)).alloc (.cells #[] 73)).alloc (.cells #[] 73))) := (((Below.refl _ _).alloc (Nat.le_refl _) _).alloc (by simp) _).alloc (by simp; omega) _
 have S0 : Hid (BoxM (((w.alloc (.cells #[.slice a1 n1 q1, .slice a2 n2 q2] 95)).alloc (.cells #[] 73)).alloc (.cells #[] 73)) w.heap.size #[.slice a1 n1 q1, .slice a2 n2 q2]) := ((BoxM.start w _).alloc _).alloc _
 have Z0 : Hid (w.heap.size + 1 + 1 + 1 ≤ (((w.alloc (.cells #[.slice a1 n1 q1, .slice a2 n2 q2] 95)).alloc (.cells #[] 73)).alloc (.cells #[] 73)).heap.size) := by
  show _ ≤ _
  simp
 go_enter Try.func62, Try.ntmps62
 go_wp2
 go_loopw [8, 9, 10] (fun m r i wr => ∃ j : Nat, j ≤ n4 ∧ i = .int .i64 j ∧ Hid (wr.ownsRow (w.heap.size + 1) 73 3 m (fm j).length (flatM (fm j))) ∧ Hid (wr.ownsRow (w.heap.size + 1) 73 3 r (fr j).length (flatM (fr j))) ∧ Hid (∀ g, m.ownBlock = some g → ¬ r.ownBlock = some g) ∧ Hid (BoxM wr w.heap.size #[.slice a1 n1 q1, .slice a2 n2 q2]) ∧ Hid (Below w.heap.size w wr) ∧ Hid (w.heap.size + 1 ≤ wr.heap.size))
  (fun _ _ i _ => n4 - (intOf i).toNat)
 case atStart => exact ⟨0, Nat.zero_le _, rfl, by rw [M0.out]; exact E1, by rw [R0.out]; exact E2, fun g h1 h2 => by simp [Value.ownBlock] at h1 h2; omega, S0, B0, by have := Z0.out; show _ ≤ _; omega⟩
 case round =>
  obtain ⟨j, hj, rfl, MN, RN, DN, SN, BN, ZN⟩ := hrel
  clear E1 E2 B0 S0 Z0
  by_cases hlt : j < n4
  ·have hal := ha4 (by omega)
   subst hal
   have t0 := cell_lowB BN.out (cell_lt (e0 j hlt)) (e0 j hlt)
   have t1 := cell_lowB BN.out (cell_lt (e1 j hlt)) (e1 j hlt)
   have t2 := cell_lowB BN.out (cell_lt (e2 j hlt)) (e2 j hlt)
   have MS1 : Hid _ := MS.out j hlt
   have RS1 : Hid _ := RS.out j hlt
   have HM : Hid _ := room_of (n := (fm j).length) (bytes := 24) (Nat.le_trans (ML1.out j) (by decide)) (by decide)
   have HR : Hid _ := room_of (n := (fr j).length) (bytes := 24) (Nat.le_trans (RL1.out j) (by decide)) (by decide)
   have H1 : Hid _ := three_one (mO buf j) (mK buf j) (mV buf j)
   have HC1 : Hid _ := HC.out (mK buf j)
   obtain ⟨c0, c1⟩ := SN.out.two
   clear e0 e1 e2 ha4 HC MS RS
   generalize mO buf j = x0 at *
   generalize mK buf j = x1 at *
   generalize mV buf j = x2 at *
   generalize prefK cs x1 = P at *
   have KEEP : Hid (∀ w', Below wr.heap.size wr w' → w'.cell? ⟨w.heap.size, 0, none⟩ = some (.slice a1 n1 q1) ∧ w'.cell? ⟨w.heap.size, 1, none⟩ = some (.slice a2 n2 q2) ∧ w'.cell? ⟨b4, off4 + j * 3, none⟩ = some (.int .i64 x0) ∧ w'.cell? ⟨b4, off4 + j * 3 + 1, none⟩ = some (.int .i64 x1) ∧ w'.cell? ⟨b4, off4 + j * 3 + 2, none⟩ = some (.int .i64 x2) ∧ Hid (Below wr.heap.size wr w')) :=
    fun w' hb => ⟨cell_lowB hb (cell_lt c0) c0, cell_lowB hb (cell_lt c1) c1, cell_lowB hb (cell_lt t0) t0, cell_lowB hb (cell_lt t1) t1, cell_lowB hb (cell_lt t2) t2, hb⟩
   have S1 := KEEP.out wr.drew (Below.refl _ _).drew
   have T1 := KEEP.out wr (Below.refl _ _)
   clear c0 c1 t0 t1 t2
   go_wp2_with fail
   go_region_held3 (fun w' => w'.cell? ⟨w.heap.size, 0, none⟩ = some (.slice a1 n1 q1) ∧ w'.cell? ⟨w.heap.size, 1, none⟩ = some (.slice a2 n2 q2) ∧ w'.cell? ⟨b4, off4 + j * 3, none⟩ = some (.int .i64 x0) ∧ w'.cell? ⟨b4, off4 + j * 3 + 1, none⟩ = some (.int .i64 x1) ∧ w'.cell? ⟨b4, off4 + j * 3 + 2, none⟩ = some (.int .i64 x2) ∧ Hid (Below wr.heap.size wr w')) (assumption)
    (first
    | (go_at_call 71; refine (HC1.out _ (BN.out.trans (S1.2.2.2.2.2.out.mono BN.out.size))).mono ?_; rintro e w2 ⟨rfl, hb2⟩; have S2 := KEEP.out w2 (S1.2.2.2.2.2.out.trans (hb2.mono S1.2.2.2.2.2.out.size)); clear hb2))
   clear S1 T1 HC1
   obtain ⟨g0, g1, g2, g3, g4, BB⟩ := S2
   have B2 := hid (BN.out.trans (BB.out.mono BN.out.size))
   have M2 := owns_below MN.out BB.out
   have R2 := owns_below RN.out BB.out
   have S2 := hid (SN.out.step BB.out (by have := ZN.out; omega))
   have hz2' : w.heap.size + 1 ≤ w2.heap.size := Nat.le_trans ZN.out BB.out.size
   have LM := hid (fun g (hg : Value.ownBlock u8 = some g) => (M2.lt g hg).2)
   have LR := hid (fun g (hg : Value.ownBlock u9 = some g) => (R2.lt g hg).2)
   have LM' := hid (fun g (hg : Value.ownBlock u8 = some g) => (M2.lt g hg).1)
   have LR' := hid (fun g (hg : Value.ownBlock u9 = some g) => (R2.lt g hg).1)
   clear MN RN BN SN BB KEEP ZN
   by_cases hq : P = i
   ·have DM := hid (MS1.out.trans (if_pos hq))
    have DR := hid (RS1.out.trans (if_pos hq))
    have R2' : Hid _ := R2
    clear MS1 RS1 R2
    subst hq
    have e4 : ((P : Int) == (P : Int)) = true := by simp
    go_wp2_with (at_builtin; refine app_oneL w2 w2.heap.size rfl rfl _ _ 52 rfl (w.heap.size + 1) 73 i0 _ 3 24 Try.underlying52 hi0 hz0 hz1 hz2 rfl (by decide) u8 _ _ rfl M2 [.int .i64 x0, .int .i64 x1, .int .i64 x2] rfl rfl H1.out HM.out.1 HM.out.2 hz2' ?_)
    intro v5 w5 o5 c5 b5 l5
    have FIN : Hid _ := And.intro o5 (And.intro (owns_chg R2'.out c5 (fun g hg h => DN.out g h hg)) (And.intro (show ∀ g, v5.ownBlock = some g → ¬ Value.ownBlock u9 = some g from fun g hg h9 => by
     rcases l5 g hg with h | h
     ·exact DN.out g h h9
     ·have := LR.out g h9; omega) (And.intro (S2.out.chg c5 (fun h => by have := LM'.out _ h; omega)) (And.intro (B2.out.trans (b5.mono (Nat.le_succ _))) (Nat.le_trans hz2' b5.size)))))
    clear o5 b5 c5 l5 M2 g0 g1 g2 g3 g4
    go_wp2
    go_roundw
    case rel => exact ⟨j + 1, by omega, by go_num, by rw [DM.out, flatM_append, List.length_append]; exact FIN.out.1, by rw [DR.out]; exact FIN.out.2.1, FIN.out.2.2.1, FIN.out.2.2.2.1, FIN.out.2.2.2.2.1, FIN.out.2.2.2.2.2⟩
    case measure => simp [intOf]; omega
   ·have DM := hid (MS1.out.trans (if_neg hq))
    have DR := hid (RS1.out.trans (if_neg hq))
    have M2' : Hid _ := M2
    clear MS1 RS1 M2
    have e4 : ((P : Int) == (i : Int)) = false := by rw [beq_eq_false_iff_ne]; omega
    go_wp2_with (at_builtin; refine app_oneL w2 w2.heap.size rfl rfl _ _ 52 rfl (w.heap.size + 1) 73 i0 _ 3 24 Try.underlying52 hi0 hz0 hz1 hz2 rfl (by decide) u9 _ _ rfl R2 [.int .i64 x0, .int .i64 x1, .int .i64 x2] rfl rfl H1.out HR.out.1 HR.out.2 hz2' ?_)
    intro v5 w5 o5 c5 b5 l5
    have FIN : Hid _ := And.intro o5 (And.intro (owns_chg M2'.out c5 (fun g hg h => DN.out g hg h)) (And.intro (show ∀ g, Value.ownBlock u8 = some g → ¬ v5.ownBlock = some g from fun g h8 hg => by
     rcases l5 g hg with h | h
     ·exact DN.out g h8 h
     ·have := LM.out g h8; omega) (And.intro (S2.out.chg c5 (fun h => by have := LR'.out _ h; omega)) (And.intro (B2.out.trans (b5.mono (Nat.le_succ _))) (Nat.le_trans hz2' b5.size)))))
    clear o5 b5 c5 l5 R2 g0 g1 g2 g3 g4
    go_wp2
    go_roundw
    case rel => exact ⟨j + 1, by omega, by go_num, by rw [DM.out]; exact FIN.out.2.1, by rw [DR.out, flatM_append, List.length_append]; exact FIN.out.1, FIN.out.2.2.1, FIN.out.2.2.2.1, FIN.out.2.2.2.2.1, FIN.out.2.2.2.2.2⟩
    case measure => simp [intOf]; omega
  ·have hjj : j = n4 := by omega
   subst hjj
   clear e0 e1 e2 ha4
   rw [MF.out] at MN
   rw [RF.out] at RN
   go_wp2
   go_ret2
   exact ⟨_, _, rfl, owns_mono MN.out (Nat.le_succ _), owns_mono RN.out (Nat.le_succ _), BN.out⟩
end
section
open Go.RowKit

def wrB (v : Value) (g : Nat) : Prop := ∃ n cap, v = .slice (some ⟨g, 0, none⟩) n cap ∧ 0 < cap
def OwnE (w : World) (base e size : Nat) (v : Value) (n : Nat) (xs : List Value) : Prop :=
 w.ownsRow base e size v n xs ∨ (n = 0 ∧ xs = [] ∧ ∃ g, v = .slice (some ⟨g, 0, none⟩) 0 0)

theorem OwnE.slice {w : World} {base e size n : Nat} {v : Value} {xs : List Value} (h : OwnE w base e size v n xs) : ∃ (a : Option Addr) (cap : Nat), v = .slice a n cap := by
 rcases h with h | ⟨rfl, _, g, rfl⟩
 ·obtain ⟨a, cap, h, _⟩ := (Row.of_owns h).len
  exact ⟨a, cap, h⟩
 ·exact ⟨_, _, rfl⟩
theorem OwnE.lt {w : World} {base e size n : Nat} {v : Value} {xs : List Value} (h : OwnE w base e size v n xs) : ∀ g, wrB v g → base ≤ g ∧ g < w.heap.size := by
 rintro g ⟨k, cap, rfl, hc⟩
 rcases h with h | ⟨_, _, g', hg⟩
 ·exact h.lt g rfl
 ·simp at hg; omega
theorem OwnE.rowF {w : World} {base e size n : Nat} {v : Value} {xs : List Value} (h : OwnE w base e size v n xs) : RowF w (wrB v) v n xs := by
 rcases h with h | ⟨rfl, rfl, g, rfl⟩
 ·have h0 := RowF.of_owns h
  obtain ⟨a, b, off, cap, h1, h2, h3, h4, h5, h6, h7⟩ := h0
  refine ⟨a, b, off, cap, h1, h2, h3, fun hn => ⟨(h4 hn).1, ?_, (h4 hn).2.2⟩, h5, h6, h7⟩
  obtain ⟨g, cap', e1, e2, e3⟩ := h.form hn
  have : b = g := by
   have := (h4 hn).2.1
   rw [e1] at this
   simpa [Value.ownBlock] using this.symm
  subst this
  have hc : cap = cap' := by rw [h1] at e1; simp at e1; exact e1.2
  exact ⟨n, cap', e1, by omega⟩
 ·exact ⟨_, g, 0, 0, rfl, Nat.le_refl _, Nat.zero_le _, fun h => absurd h (Nat.lt_irrefl _), fun j u hj => by simp at hj, (fun h => by cases h), fun _ => rfl⟩
theorem OwnE.chg {P : Nat → Prop} {w w' : World} {base e size n : Nat} {v : Value} {xs : List Value} (h : OwnE w base e size v n xs) (hc : Chg P w w') (hP : ∀ g, wrB v g → ¬ P g) : OwnE w' base e size v n xs := by
 rcases h with h | h
 ·have h0 := h
  obtain ⟨hl, h | ⟨g, cap, cur, rfl, hg, hh, hn, hcap, hsz, htake⟩⟩ := h
  ·exact .inl ⟨hl, .inl h⟩
  ·rcases Nat.eq_zero_or_pos cap with h1 | h1
   ·subst h1
    have : n = 0 := by omega
    subst this
    exact .inr ⟨rfl, List.length_eq_zero_iff.1 (by omega), g, rfl⟩
   ·exact .inl (owns_chg h0 hc fun g' hg' => hP g' ⟨n, cap, by simp [Value.ownBlock] at hg'; rw [hg'], h1⟩)
 ·exact .inr h
theorem OwnE.below {w w' : World} {base e size n : Nat} {v : Value} {xs : List Value} (h : OwnE w base e size v n xs) (hb : Below w.heap.size w w') : OwnE w' base e size v n xs :=
 h.chg (Chg.of_below (F := fun _ => False) hb) (fun _ _ h => h)
theorem OwnE.mono {w : World} {base base' e size n : Nat} {v : Value} {xs : List Value} (h : OwnE w base e size v n xs) (hb : base' ≤ base) : OwnE w base' e size v n xs := h.imp (fun h => owns_mono h hb) id
theorem OwnE.nil (w : World) (base e size : Nat) : OwnE w base e size (.slice none 0 0) 0 [] := .inl (World.ownsRow_nil w base e size)
theorem OwnE.zero (w : World) (base e size g : Nat) : OwnE w base e size (.slice (some ⟨g, 0, none⟩) 0 0) 0 [] := .inr ⟨rfl, rfl, g, rfl⟩
theorem wrB_nil (g : Nat) : ¬ wrB (.slice none 0 0) g := fun ⟨_, _, h, _⟩ => by simp at h
theorem wrB_zero (b g : Nat) : ¬ wrB (.slice (some ⟨b, 0, none⟩) 0 0) g := fun ⟨_, _, h, h2⟩ => by simp at h; omega

def AppTo (W : World) (base e size : Nat) (v : Value) (n : Nat) (xs : List Value) (v' : Value) (w' : World) : Prop :=
 OwnE w' base e size v' n xs ∧ Chg (wrB v) W w' ∧ Below base W w' ∧ ∀ g, wrB v' g → wrB v g ∨ W.heap.size ≤ g

theorem run_append_E {P : Program} (W : World) (t ty : TypeId) (base : Nat) (e : TypeId) (i : TypeInfo) (z : Value) (size bytes : Nat) (ht : P.underlying t = some (.slice e)) (hi : P.info? e = some i) (hz : i.zero = some z)
  (hsize : i.size = size) (hby : i.bytes = bytes) (hzs : z.cells.size = size) (hsz : 0 < size)
  (v : Value) (n : Nat) (xs : List Value) (hown : OwnE W base e size v n xs)
  (u : Value) (m : Nat) (news : List Value) (hr : Row W u m news) (hl : news.length = m * size) (h1 : ∀ y ∈ news, y.oneCell' = true)
  (h63 : n + m ≤ maxLen) (hbytes : (n + m) * bytes ≤ 140737488355328) (hbase : base ≤ W.heap.size) :
  ∃ v' w', (Builtin.append_ #[t, t] ty #[v, u]).run P W = .ok v' w' ∧ AppTo W base e size v (n + m) (xs ++ news) v' w' := by
 obtain ⟨sa, b, off, cap, rfl, hle, hmx, hsa, hcell, hnil⟩ := hr
 have hnews : ∀ ad, sa = some ad → ∀ j y, news[j]? = some y → W.cell? (ad.add j) = some y := by
  intro ad had j y hj
  have hjl := (List.getElem?_eq_some_iff.1 hj).1
  have hm : 0 < m := by
   rcases Nat.eq_zero_or_pos m with h0 | h0
   ·subst h0; omega
   ·exact h0
  have := hsa hm
  rw [had] at this
  simp only [Option.some.injEq] at this
  subst this
  rw [Go.WideShapes.add_plain]
  exact hcell j y hj
 have key : ∀ (v' : Value) (w' : World), w'.ownsRow base e size v' (n + m) (xs ++ news) → W.grownBy w' v.ownBlock → (v'.ownBlock = v.ownBlock ∨ v'.ownBlock = some W.heap.size) → W.ownsRow base e size v n xs →
   ((∀ g c, v = .slice (some ⟨g, 0, none⟩) n c → c = 0 → v' = v ∧ w' = W ∨ Below W.heap.size W w' ∧ v'.ownBlock = some W.heap.size)) →
   (∀ g c c', v = .slice (some ⟨g, 0, none⟩) n c → v' = .slice (some ⟨g, 0, none⟩) (n + m) c' → g < W.heap.size) →
   AppTo W base e size v (n + m) (xs ++ news) v' w' := by
  intro v' w' h2 h3 h4 hv hz0 hlt
  obtain ⟨_, ⟨rfl, rfl⟩ | ⟨g, c, cur, rfl, hg, hh, hn, hcap, hs, htk⟩⟩ := hv
  ·have hb : Below W.heap.size W w' := by
    have hc := chg_of_grown h3
    exact hc.below (fun g _ hg => by simp [Value.ownBlock] at hg) (Nat.le_refl _)
   refine ⟨.inl h2, Chg.of_below hb, hb.mono hbase, fun g' hg' => ?_⟩
   obtain ⟨k, c', rfl, hc'⟩ := hg'
   rcases h4 with h4 | h4
   ·simp [Value.ownBlock] at h4
   ·simp [Value.ownBlock] at h4; right; omega
  ·rcases Nat.eq_zero_or_pos c with hc0 | hc0
   ·rcases hz0 g c rfl hc0 with ⟨rfl, rfl⟩ | ⟨hb, ho⟩
    ·exact ⟨.inl h2, Chg.refl _ _, Below.refl _ _, fun g' hg' => .inl hg'⟩
    ·refine ⟨.inl h2, Chg.of_below hb, hb.mono hbase, fun g' hg' => ?_⟩
     obtain ⟨k, c', rfl, hc'⟩ := hg'
     simp [Value.ownBlock] at ho
     right; omega
   ·have hc := chg_of_grown h3
    have hc' : Chg (wrB (.slice (some ⟨g, 0, none⟩) n c)) W w' := hc.mono fun g' _ hg' => by
     simp [Value.ownBlock] at hg'
     subst hg'
     exact ⟨n, c, rfl, hc0⟩
    refine ⟨.inl h2, hc', hc'.below (fun g' _ hg' => ?_) hbase, fun g' hg' => ?_⟩
    ·obtain ⟨_, _, hg', _⟩ := hg'
     simp at hg'
     omega
    ·obtain ⟨k, c2, rfl, hc2⟩ := hg'
     rcases h4 with h4 | h4
     ·simp [Value.ownBlock] at h4
      subst h4
      exact .inl ⟨n, c, rfl, hc0⟩
     ·simp [Value.ownBlock] at h4; right; omega
 by_cases hm : m = 0
 ·subst hm
  have hn0 : news = [] := List.length_eq_zero_iff.1 (by omega)
  subst hn0
  rw [List.append_nil, Nat.add_zero]
  have hv : ∃ a c, v = .slice a n c ∧ n ≤ c ∧ (a = none → c = 0 ∧ n = 0) := by
   rcases hown with h | ⟨rfl, _, g, rfl⟩
   ·obtain ⟨a, b', off', c, h1, h2, _, h4, _, h6⟩ := Row.of_owns h
    exact ⟨a, c, h1, h2, fun h => ⟨h6 h, by have := h6 h; omega⟩⟩
   ·exact ⟨_, 0, rfl, Nat.le_refl _, fun h => by cases h⟩
  obtain ⟨a, c, rfl, hnc, hnn⟩ := hv
  refine ⟨.slice a n c, W, ?_, hown, Chg.refl _ _, Below.refl _ _, fun g hg => .inl hg⟩
  have e : (cap = 0 ∨ sa ≠ none) := by
   cases sa with
   | none => exact .inl (hnil rfl)
   | some ad => exact .inr (by simp)
  cases a with
  | none =>
   obtain ⟨rfl, rfl⟩ := hnn rfl
   cases sa <;> simp [Builtin.append_, run_underlying ht, sizeOf, typeInfo, hi, Builtin.lenOf, Builtin.firstCells, loadCells, loadCellsFrom]
  | some ad =>
   cases sa <;> simp [Builtin.append_, run_underlying ht, sizeOf, typeInfo, hi, Builtin.lenOf, Builtin.firstCells, loadCells, loadCellsFrom, hnc, storeCells]
 ·have hm' : 0 < m := by omega
  have hsa' := hsa hm'
  subst hsa'
  rcases hown with hown | ⟨rfl, rfl, g, rfl⟩
  ·obtain ⟨v', w', hr, h2, h3, h4, h5⟩ := run_append_own_at (P := P) W base t ty e i z size bytes ht hi hz hsize hby hzs hsz v n xs hown ⟨b, off, none⟩ m cap news hl (hnews _ rfl) h1 h63 hbytes hbase
   refine ⟨v', w', hr, key v' w' h2 h3 h5 hown (fun g c hv hc => ?_) (fun g c c' hv _ => ?_)⟩
   ·right
    subst hv
    subst hc
    have hn0 : n = 0 := by
     obtain ⟨_, ⟨h, _⟩ | ⟨g', c', cur, h, hg, hh, hn, hcap, hs, htk⟩⟩ := hown
     ·simp at h
     ·simp at h; omega
    subst hn0
    have hx : xs = [] := List.length_eq_zero_iff.1 (by have := hown.1; omega)
    subst hx
    subst hsize
    subst hby
    have hg2 := run_append_grow (P := P) W t ty e i z ht hi hz ⟨g, 0, none⟩ 0 0 [] (by simp) (by intro j y hj; simp at hj) ⟨b, off, none⟩ m cap news hl (hnews _ rfl) (by omega) (by simp only [maxLen] at h63; omega) (growslice_fits (by omega) hbytes)
    rw [hg2] at hr
    simp only [Result.ok.injEq] at hr
    obtain ⟨rfl, rfl⟩ := hr
    exact ⟨((Below.refl _ _).drew).alloc (Nat.le_refl _) _, rfl⟩
   ·subst hv
    exact (hown.lt g rfl).2
  ·subst hsize
   subst hby
   have hg2 := run_append_grow (P := P) W t ty e i z ht hi hz ⟨g, 0, none⟩ 0 0 [] (by simp) (by intro j y hj; simp at hj) ⟨b, off, none⟩ m cap news hl (hnews _ rfl) (by omega) (by simp only [maxLen] at h63; omega) (growslice_fits (by omega) hbytes)
   obtain ⟨v', w', hr, h2, h3, h4, h5⟩ := run_append_own_at (P := P) W base t ty e i z i.size i.bytes ht hi hz rfl rfl hzs hsz (.slice none 0 0) 0 [] (World.ownsRow_nil W base e i.size) ⟨b, off, none⟩ m cap news hl (hnews _ rfl) h1 h63 hbytes hbase
   have hg3 := run_append_nil (P := P) W t ty e i z ht hi hz ⟨b, off, none⟩ m cap news hl (hnews _ rfl) hm' (by simp only [maxLen] at h63; omega) (by have hb := hbytes; simp only [Nat.zero_add] at hb; omega)
   rw [hg3] at hr
   simp only [Result.ok.injEq] at hr
   obtain ⟨rfl, rfl⟩ := hr
   have hb : Below W.heap.size W (W.drew.alloc (.cells (news.toArray ++ Builtin.zeroCells z.cells (grownCap W m 0 e - m)) e)) := ((Below.refl _ _).drew).alloc (Nat.le_refl _) _
   refine ⟨_, _, hg2, ?_⟩
   have e1 : ([] : List Value).toArray ++ news.toArray = news.toArray := by simp
   rw [e1, Nat.zero_add, List.nil_append]
   rw [Nat.zero_add, List.nil_append] at h2
   refine ⟨.inl h2, Chg.of_below hb, hb.mono hbase, fun g' hg' => ?_⟩
   obtain ⟨k, c', hk, _⟩ := hg'
   simp at hk
   right; omega

theorem wp_appE {P : Program} {o : Oper} {a : Act} {K : Act → World → Prop} {Q : Exit → Act → World → Prop} (W : World) (s x : Operand) (t : TypeId)
  (ho : o.op = .call { callee := .builtin .append, args := #[s, x], argTypes := #[t, t] })
  (base : Nat) (e : TypeId) (i : TypeInfo) (z : Value) (size bytes : Nat) (ht : P.underlying t = some (.slice e)) (hi : P.info? e = some i) (hz : i.zero = some z)
  (hsize : i.size = size) (hby : i.bytes = bytes) (hzs : z.cells.size = size) (hsz : 0 < size)
  (v : Value) (n : Nat) (xs : List Value) (hs : a.eval s = v) (hown : OwnE W base e size v n xs)
  (u : Value) (m : Nat) (news : List Value) (hx : a.eval x = u) (hr : Row W u m news) (hl : news.length = m * size) (h1 : ∀ y ∈ news, y.oneCell' = true)
  (h63 : n + m ≤ maxLen) (hbytes : (n + m) * bytes ≤ 140737488355328) (hbase : base ≤ W.heap.size)
  (h : ∀ v' w', AppTo W base e size v (n + m) (xs ++ news) v' w' → K (a.put o.dst v') w') : o.wp P a W K Q := by
 obtain ⟨v', w', hrun, h2⟩ := run_append_E (P := P) W t o.type base e i z size bytes ht hi hz hsize hby hzs hsz v n xs hown u m news hr hl h1 h63 hbytes hbase
 unfold Oper.wp
 simp [execOp, ho, resolve, invoke, builtin, hs, hx, hrun, Result.andThen]
 exact h v' w' h2
theorem step_appE {P : Program} {ops : Array Oper} {o : Oper} {a : Act} {K : Act → World → Prop} {Q : Exit → Act → World → Prop} {E : Prop} (W : World) (hgd : o.guard = none) (s x : Operand) (t : TypeId)
  (ho : o.op = .call { callee := .builtin .append, args := #[s, x], argTypes := #[t, t] })
  (base : Nat) (e : TypeId) (i : TypeInfo) (z : Value) (size bytes : Nat) (ht : P.underlying t = some (.slice e)) (hi : P.info? e = some i) (hz : i.zero = some z)
  (hsize : i.size = size) (hby : i.bytes = bytes) (hzs : z.cells.size = size) (hsz : 0 < size)
  (v : Value) (n : Nat) (xs : List Value) (hs : a.eval s = v) (hown : OwnE W base e size v n xs)
  (u : Value) (m : Nat) (news : List Value) (hx : a.eval x = u) (hr : Row W u m news) (hl : news.length = m * size) (h1 : ∀ y ∈ news, y.oneCell' = true)
  (h63 : n + m ≤ maxLen) (hbytes : (n + m) * bytes ≤ 140737488355328) (hbase : base ≤ W.heap.size)
  (h : ∀ v' w', AppTo W base e size v (n + m) (xs ++ news) v' w' → K (a.put o.dst v') w') :
  if Region.wanted o (yielded ops a.tmps) = true then Oper.wp P o a W K Q else E := by
 have hw : Region.wanted o (yielded ops a.tmps) = true := by simp [Region.wanted, hgd]
 rw [if_pos hw]
 exact wp_appE W s x t ho base e i z size bytes ht hi hz hsize hby hzs hsz v n xs hs hown u m news hx hr hl h1 h63 hbytes hbase h
theorem list_appE {P : Program} {ops : Array Oper} {rest : List Oper} {o : Oper} {a : Act} {Q : Exit → Act → World → Prop} (W : World) (hgd : o.guard = none) (s x : Operand) (t : TypeId)
  (ho : o.op = .call { callee := .builtin .append, args := #[s, x], argTypes := #[t, t] })
  (base : Nat) (e : TypeId) (i : TypeInfo) (z : Value) (size bytes : Nat) (ht : P.underlying t = some (.slice e)) (hi : P.info? e = some i) (hz : i.zero = some z)
  (hsize : i.size = size) (hby : i.bytes = bytes) (hzs : z.cells.size = size) (hsz : 0 < size)
  (v : Value) (n : Nat) (xs : List Value) (hs : a.eval s = v) (hown : OwnE W base e size v n xs)
  (u : Value) (m : Nat) (news : List Value) (hx : a.eval x = u) (hr : Row W u m news) (hl : news.length = m * size) (h1 : ∀ y ∈ news, y.oneCell' = true)
  (h63 : n + m ≤ maxLen) (hbytes : (n + m) * bytes ≤ 140737488355328) (hbase : base ≤ W.heap.size)
  (h : ∀ v' w', AppTo W base e size v (n + m) (xs ++ news) v' w' → wpList P ops Q rest (a.put o.dst v') w') :
  wpList P ops Q (o :: rest) a W :=
 wpList_plain hgd fun _ hK => wp_appE W s x t ho base e i z size bytes ht hi hz hsize hby hzs hsz v n xs hs hown u m news hx hr hl h1 h63 hbytes hbase fun v' w' h2 => hK _ _ (h v' w' h2)

theorem Row.sub {w : World} {a : Option Addr} {n cap size : Nat} {xs : List Value} (h : Row w (.slice a n cap) n xs) (l r : Nat) (hlr : l ≤ r) (hr : r ≤ n) (hn : 0 < n) :
  Row w (.slice (if cap = l then a else a.map (·.add (l * size))) (r - l) (cap - l)) (r - l) ((xs.drop (l * size)).take ((r - l) * size)) := by
 obtain ⟨a', b, off, cap', h1, h2, h3, h4, h5, h6⟩ := h
 simp only [Value.slice.injEq, true_and] at h1
 obtain ⟨rfl, rfl⟩ := h1
 have := h4 hn
 subst this
 by_cases hc : cap = l
 ·rw [if_pos hc]
  refine ⟨_, b, off, _, rfl, by omega, by omega, fun hn => by omega, fun j u hj => ?_, fun h => by cases h⟩
  have : r - l = 0 := by omega
  rw [this] at hj
  simp at hj
 ·rw [if_neg hc]
  refine ⟨_, b, off + l * size, _, rfl, by omega, by omega, fun hn => by simp [Go.WideShapes.add_plain], fun j u hj => ?_, fun h => by simp at h⟩
  rw [flat_get] at hj
  split at hj
  ·rw [show off + l * size + j = off + (l * size + j) by omega]
   exact h5 _ _ hj
  ·cases hj
theorem Row.laid (W : World) (xs : List Value) (e B : Nat) (hB : B = W.heap.size) : Row (W.alloc (.cells xs.toArray e)) (.slice (some ⟨B, 0, none⟩) 1 1) 1 xs := by
 subst hB
 refine ⟨_, W.heap.size, 0, 1, rfl, Nat.le_refl _, by decide, fun _ => rfl, fun j u hj => ?_, fun h => by cases h⟩
 rw [Nat.zero_add, cell_of_cells (heap_alloc_new W _)]
 simpa using hj
end
end Go.Proofs.Ytekcnibohikmdaa
