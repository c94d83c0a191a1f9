/-
  Contracts of the model's l4At, l4Split.
-/
import Derived.Test.YtmpiijphpnjlnaaGreatPart4
import Derived.Test.YtmpiijphpnjlnaaGreatMSpec
namespace Go.Proofs.YtmpiijphpnjlnaaGreat
open Go.RowKit

/-- a box of trees side by side -/
def BoxM (w : World) (B : Nat) (A : Array Value) : Prop := w.heap[B]? = some (.cells A 125 (0, 0))
theorem BoxM.start (w : World) (A : Array Value) : BoxM (w.alloc (.cells A 125)) w.heap.size A := heap_alloc_new w _
theorem BoxM.step {u w' : World} {B N : Nat} {A : Array Value} (h : BoxM u B A) (hb : Below N u w') (hN : B < N) : BoxM w' B A := (hb.block B hN).trans h
theorem BoxM.lt {u : World} {B : Nat} {A : Array Value} (h : BoxM u B A) : B < u.heap.size := (Array.getElem?_eq_some_iff.1 h).1
theorem BoxM.cells {u : World} {B : Nat} {A : Array Value} (h : BoxM u B A) : ∀ j, u.cell? ⟨B, j, none⟩ = A[j]? := fun j => cell_of_row u B j A 125 (0, 0) h
theorem BoxM.two {u : World} {B : Nat} {x0 x1 : Value} (h : BoxM u B #[x0, x1]) : u.cell? ⟨B, 0, none⟩ = some x0 ∧ u.cell? ⟨B, 1, none⟩ = some x1 := ⟨by rw [h.cells]; rfl, by rw [h.cells]; rfl⟩
theorem BoxM.free {u : World} {B : Nat} {x0 x1 : Value} (h : BoxM u B #[x0, x1]) : u.frozen? ⟨B, 0, none⟩ = false ∧ u.frozen? ⟨B, 1, none⟩ = false := ⟨frozen_of_row u B 0 _ 125 h, frozen_of_row u B 1 _ 125 h⟩
theorem BoxM.chg {w w' : World} {L : Nat} {A : Array Value} {p : Nat → Prop} (h : BoxM w L A) (hc : Chg p w w') (hp : ¬ p L) : BoxM w' L A :=
  (hc.block L (Array.getElem?_eq_some_iff.1 h).1 hp).trans h
theorem BoxM.alloc {w : World} {L : Nat} {A : Array Value} (h : BoxM w L A) (o : Obj) : BoxM (w.alloc o) L A := h.step ((Below.refl _ _).alloc (Nat.le_refl _) o) h.lt
theorem bel_boxM (w : World) (A : Array Value) : Below w.heap.size w (w.alloc (.cells A 125)) := (Below.refl _ _).alloc (Nat.le_refl _) _

set_option maxHeartbeats 1000000 in
theorem l4At_any (vt vc : Value) (cs : List Int) (x0 : Int) (w : World) (hc : Row w vc cs.length (flatI cs)) :
    Calls Tryz.prog 114 #[.agg #[vt, vc], .int .i64 x0] w fun e w' => e = .returned (.int .i64 (prefK cs x0 : Nat)) ∧ Below w.heap.size w w' := by
  obtain ⟨a2, b2, off2, q2, rfl, hcap2, hmax2, ha2, cc⟩ := hc.ints
  unfold maxLen at hmax2
  clear hc
  have PK : Hid (∀ n, n ≤ cs.length → (∀ i, i < n → iAt cs i ≤ x0) → (n < cs.length → ¬ iAt cs n ≤ x0) → prefK cs x0 = n) := fun n => prefK_at
  generalize prefK cs x0 = R at *
  generalize hn2 : cs.length = n2 at *
  have B0 : Hid _ := bel_boxM w #[vt, .slice a2 n2 q2]
  have S0 : Hid (BoxM _ w.heap.size _) := BoxM.start w #[vt, .slice a2 n2 q2]
  go_enter Tryz.func114, Tryz.ntmps114
  go_wp2
  go_loopw [5] (fun i wr => ∃ k' : Nat, k' ≤ n2 ∧ i = .int .i64 k' ∧ wr = w.alloc (.cells #[vt, .slice a2 n2 q2] 125) ∧ Hid (∀ i, i < k' → iAt cs i ≤ x0))
    (fun i _ => n2 - (intOf i).toNat)
  case atStart => exact ⟨0, Nat.zero_le _, rfl, rfl, fun i hi => absurd hi (Nat.not_lt_zero _)⟩
  case round =>
    obtain ⟨k', hkl, rfl, hwr, ALL⟩ := hrel
    have k0 := S0.out.two
    rw [← hwr] at k0
    obtain ⟨k0, k1⟩ := k0
    by_cases hlt : k' < n2
    · have hal := ha2 (by omega)
      subst hal
      have d0 := (B0.out.cell (by exact cell_lt (cc k' hlt))).trans (cc k' hlt)
      rw [← hwr] at d0
      have BW : Hid (Below w.heap.size w wr) := by rw [hwr]; exact B0.out
      have WR : Hid (wr = w.alloc (.cells #[vt, .slice (some ⟨b2, off2, none⟩) n2 q2] 125)) := hwr
      clear cc ha2 hwr S0 B0
      by_cases hq : iAt cs k' ≤ x0
      · have YS : Hid (iAt cs k' ≤ x0) := hq
        go_wp2
        go_roundw
        case rel => exact ⟨k' + 1, by omega, by go_num, WR.out, fun i hi => if h : i < k' then ALL.out i h else by rw [show i = k' by omega]; exact YS.out⟩
        case measure => simp [intOf]; omega
      · have E : Hid (R = k') := PK.out k' (by omega) ALL.out (fun _ => by omega)
        go_wp2
        go_ret
        exact ⟨ret_int (by rw [E.out]), BW.out⟩
    · have E : Hid (R = k') := PK.out k' (by omega) ALL.out (fun h => absurd h hlt)
      have BW : Hid (Below w.heap.size w wr) := by rw [hwr]; exact B0.out
      clear cc ha2 hwr S0 B0
      go_wp2
      go_ret
      exact ⟨ret_int (by rw [E.out]), BW.out⟩

set_option maxRecDepth 100000 in
set_option maxHeartbeats 4000000 in
theorem l4Split_any (a1 : Option Addr) (n1 q1 : Nat) (vc vb : Value) (cs : List Int) (buf : ML) (i : Nat) (w : World) (hc : Row w vc cs.length (flatI cs)) (hb : Row w vb buf.length (flatM buf)) (hn : buf.length ≤ 2097152) :
    Calls Tryz.prog 107 #[.agg #[.slice a1 n1 q1, vc], vb, .int .i64 (i : Nat)] w fun e w' => ∃ v1 v2, e = .returned (.tuple #[v1, v2]) ∧ w'.ownsRow w.heap.size 37 3 v1 (mineF cs i buf).length (flatM (mineF cs i buf)) ∧ w'.ownsRow w.heap.size 37 3 v2 (restF cs i buf).length (flatM (restF cs i buf)) ∧ Below w.heap.size w w' := by
  have HC : Hid (∀ (x0 : Int) (w1 : World), Below w.heap.size w w1 → Calls Tryz.prog 114 #[.agg #[.slice a1 n1 q1, vc], .int .i64 x0] w1 fun e w' => e = .returned (.int .i64 (prefK cs x0 : Nat)) ∧ Below w1.heap.size w1 w') :=
    fun x0 w1 h => l4At_any _ vc cs x0 w1 (hc.below h)
  obtain ⟨a2, b2, off2, q2, rfl, hcap2, hmax2, ha2, cc⟩ := hc.ints
  obtain ⟨a4, b4, off4, q4, rfl, hcap4, hmax4, ha4, e0, e1, e2⟩ := hb.msgs
  obtain ⟨i0, hi0, hz0, hz1, hz2⟩ := info_parts Tryz.info37
  unfold maxLen at hmax2 hmax4
  clear hc hb cc ha2
  have MS : Hid (∀ j, j < buf.length → mineF cs i (buf.take (j + 1)) = if prefK cs (mK buf j) = i then mineF cs i (buf.take j) ++ [(mO buf j, mK buf j, mV buf j)] else mineF cs i (buf.take j)) := fun j hj => mineF_succ cs i buf j hj
  have RS : Hid (∀ j, j < buf.length → restF cs i (buf.take (j + 1)) = if prefK cs (mK buf j) = i then restF cs i (buf.take j) else restF cs i (buf.take j) ++ [(mO buf j, mK buf j, mV buf j)]) := fun j hj => restF_succ cs i buf j hj
  have MF : Hid (mineF cs i (buf.take buf.length) = mineF cs i buf) := by show _ = _; rw [List.take_of_length_le (Nat.le_refl _)]
  have RF : Hid (restF cs i (buf.take buf.length) = restF cs i buf) := by show _ = _; rw [List.take_of_length_le (Nat.le_refl _)]
  have ML1 : Hid (∀ j, (mineF cs i (buf.take j)).length ≤ 2097152) := fun j => Nat.le_trans (mineF_length _ _ _) (Nat.le_trans (List.length_take_le' _ _) hn)
  have RL1 : Hid (∀ j, (restF cs i (buf.take j)).length ≤ 2097152) := fun j => Nat.le_trans (restF_length _ _ _) (Nat.le_trans (List.length_take_le' _ _) hn)
  have M0 : Hid (mineF cs i (buf.take 0) = []) := rfl
  have R0 : Hid (restF cs i (buf.take 0) = []) := rfl
  generalize mineF cs i buf = MM at *
  generalize restF cs i buf = RR at *
  generalize hfm : (fun j => mineF cs i (buf.take j)) = fm at *
  generalize hfr : (fun j => restF cs i (buf.take j)) = fr at *
  have hfm' : ∀ j, mineF cs i (buf.take j) = fm j := fun j => by rw [← hfm]
  have hfr' : ∀ j, restF cs i (buf.take j) = fr j := fun j => by rw [← hfr]
  simp only [hfm', hfr'] at MS RS MF RF ML1 RL1 M0 R0
  clear hfm hfm' hfr hfr'
  generalize cs.length = n2 at *
  generalize hn4 : buf.length = n4 at *
  have E1 : Hid ((((w.alloc (.cells #[.slice a1 n1 q1, .slice a2 n2 q2] 125)).alloc (.cells #[] 37)).alloc (.cells #[] 37)).ownsRow (w.heap.size + 1) 37 3 (.slice (some ⟨w.heap.size + 1, 0, none⟩) 0 0) 0 []) := by
    have := empty_own (w.alloc (.cells #[.slice a1 n1 q1, .slice a2 n2 q2] 125)) (w.heap.size + 1) 37 3 (by simp)
    rw [World.size_alloc] at this
    exact this.alloc _
  have E2 : Hid ((((w.alloc (.cells #[.slice a1 n1 q1, .slice a2 n2 q2] 125)).alloc (.cells #[] 37)).alloc (.cells #[] 37)).ownsRow (w.heap.size + 1) 37 3 (.slice (some ⟨w.heap.size + 1 + 1, 0, none⟩) 0 0) 0 []) := by
    have := empty_own ((w.alloc (.cells #[.slice a1 n1 q1, .slice a2 n2 q2] 125)).alloc (.cells #[] 37)) (w.heap.size + 1) 37 3 (by simp)
    rw [World.size_alloc, World.size_alloc] at this
    exact this
  have B0 : Hid (Below w.heap.size w (((w.alloc (.cells #[.slice a1 n1 q1, .slice a2 n2 q2] 125)).alloc (.cells #[] 37)).alloc (.cells #[] 37))) := (((Below.refl _ _).alloc (Nat.le_refl _) _).alloc (by simp) _).alloc (by simp; omega) _
  have S0 : Hid (BoxM (((w.alloc (.cells #[.slice a1 n1 q1, .slice a2 n2 q2] 125)).alloc (.cells #[] 37)).alloc (.cells #[] 37)) w.heap.size #[.slice a1 n1 q1, .slice a2 n2 q2]) := ((BoxM.start w _).alloc _).alloc _
  have Z0 : Hid (w.heap.size + 1 + 1 + 1 ≤ (((w.alloc (.cells #[.slice a1 n1 q1, .slice a2 n2 q2] 125)).alloc (.cells #[] 37)).alloc (.cells #[] 37)).heap.size) := by
    show _ ≤ _
    simp
  go_enter Tryz.func107, Tryz.ntmps107
  go_wp2
  go_loopw [8, 9, 10] (fun m r i wr => ∃ j : Nat, j ≤ n4 ∧ i = .int .i64 j ∧ Hid (wr.ownsRow (w.heap.size + 1) 37 3 m (fm j).length (flatM (fm j))) ∧ Hid (wr.ownsRow (w.heap.size + 1) 37 3 r (fr j).length (flatM (fr j))) ∧ Hid (∀ g, m.ownBlock = some g → ¬ r.ownBlock = some g) ∧ Hid (BoxM wr w.heap.size #[.slice a1 n1 q1, .slice a2 n2 q2]) ∧ Hid (Below w.heap.size w wr) ∧ Hid (w.heap.size + 1 ≤ wr.heap.size))
    (fun _ _ i _ => n4 - (intOf i).toNat)
  case atStart => exact ⟨0, Nat.zero_le _, rfl, by rw [M0.out]; exact E1, by rw [R0.out]; exact E2, fun g h1 h2 => by simp [Value.ownBlock] at h1 h2; omega, S0, B0, by have := Z0.out; show _ ≤ _; omega⟩
  case round =>
    obtain ⟨j, hj, rfl, MN, RN, DN, SN, BN, ZN⟩ := hrel
    clear E1 E2 B0 S0 Z0
    by_cases hlt : j < n4
    · have hal := ha4 (by omega)
      subst hal
      have t0 := cell_lowB BN.out (cell_lt (e0 j hlt)) (e0 j hlt)
      have t1 := cell_lowB BN.out (cell_lt (e1 j hlt)) (e1 j hlt)
      have t2 := cell_lowB BN.out (cell_lt (e2 j hlt)) (e2 j hlt)
      have MS1 : Hid _ := MS.out j hlt
      have RS1 : Hid _ := RS.out j hlt
      have HM : Hid _ := room_of (n := (fm j).length) (bytes := 24) (Nat.le_trans (ML1.out j) (by decide)) (by decide)
      have HR : Hid _ := room_of (n := (fr j).length) (bytes := 24) (Nat.le_trans (RL1.out j) (by decide)) (by decide)
      have H1 : Hid _ := three_one (mO buf j) (mK buf j) (mV buf j)
      have HC1 : Hid _ := HC.out (mK buf j)
      obtain ⟨c0, c1⟩ := SN.out.two
      clear e0 e1 e2 ha4 HC MS RS
      generalize mO buf j = x0 at *
      generalize mK buf j = x1 at *
      generalize mV buf j = x2 at *
      generalize prefK cs x1 = P at *
      have KEEP : Hid (∀ w', Below wr.heap.size wr w' → w'.cell? ⟨w.heap.size, 0, none⟩ = some (.slice a1 n1 q1) ∧ w'.cell? ⟨w.heap.size, 1, none⟩ = some (.slice a2 n2 q2) ∧ w'.cell? ⟨b4, off4 + j * 3, none⟩ = some (.int .i64 x0) ∧ w'.cell? ⟨b4, off4 + j * 3 + 1, none⟩ = some (.int .i64 x1) ∧ w'.cell? ⟨b4, off4 + j * 3 + 2, none⟩ = some (.int .i64 x2) ∧ Hid (Below wr.heap.size wr w')) :=
        fun w' hb => ⟨cell_lowB hb (cell_lt c0) c0, cell_lowB hb (cell_lt c1) c1, cell_lowB hb (cell_lt t0) t0, cell_lowB hb (cell_lt t1) t1, cell_lowB hb (cell_lt t2) t2, hb⟩
      have S1 := KEEP.out wr.drew (Below.refl _ _).drew
      have T1 := KEEP.out wr (Below.refl _ _)
      clear c0 c1 t0 t1 t2
      go_wp2_with fail
      go_region_held3 (fun w' => w'.cell? ⟨w.heap.size, 0, none⟩ = some (.slice a1 n1 q1) ∧ w'.cell? ⟨w.heap.size, 1, none⟩ = some (.slice a2 n2 q2) ∧ w'.cell? ⟨b4, off4 + j * 3, none⟩ = some (.int .i64 x0) ∧ w'.cell? ⟨b4, off4 + j * 3 + 1, none⟩ = some (.int .i64 x1) ∧ w'.cell? ⟨b4, off4 + j * 3 + 2, none⟩ = some (.int .i64 x2) ∧ Hid (Below wr.heap.size wr w')) (assumption)
        (first
        | (go_at_call 114; refine (HC1.out _ (BN.out.trans (S1.2.2.2.2.2.out.mono BN.out.size))).mono ?_; rintro e w2 ⟨rfl, hb2⟩; have S2 := KEEP.out w2 (S1.2.2.2.2.2.out.trans (hb2.mono S1.2.2.2.2.2.out.size)); clear hb2))
      clear S1 T1 HC1
      obtain ⟨g0, g1, g2, g3, g4, BB⟩ := S2
      have B2 : Hid (Below w.heap.size w w2) := BN.out.trans (BB.out.mono BN.out.size)
      have M2 := owns_below MN.out BB.out
      have R2 := owns_below RN.out BB.out
      have S2 : Hid (BoxM w2 w.heap.size #[.slice a1 n1 q1, .slice a2 n2 q2]) := SN.out.step BB.out (by have := ZN.out; omega)
      have hz2' : w.heap.size + 1 ≤ w2.heap.size := Nat.le_trans ZN.out BB.out.size
      have LM : Hid (∀ g, Value.ownBlock u8 = some g → g < w2.heap.size) := fun g hg => (M2.lt g hg).2
      have LR : Hid (∀ g, Value.ownBlock u9 = some g → g < w2.heap.size) := fun g hg => (R2.lt g hg).2
      have LM' : Hid (∀ g, Value.ownBlock u8 = some g → w.heap.size + 1 ≤ g) := fun g hg => (M2.lt g hg).1
      have LR' : Hid (∀ g, Value.ownBlock u9 = some g → w.heap.size + 1 ≤ g) := fun g hg => (R2.lt g hg).1
      clear MN RN BN SN BB KEEP ZN
      by_cases hq : P = i
      · have DM : Hid (fm (j + 1) = fm j ++ [(x0, x1, x2)]) := MS1.out.trans (if_pos hq)
        have DR : Hid (fr (j + 1) = fr j) := RS1.out.trans (if_pos hq)
        have R2' : Hid _ := R2
        clear MS1 RS1 R2
        subst hq
        have e4 : ((P : Int) == (P : Int)) = true := by simp
        go_wp2_with (at_builtin; refine app_oneL w2 w2.heap.size rfl rfl _ _ 27 rfl (w.heap.size + 1) 37 i0 _ 3 24 Tryz.underlying27 hi0 hz0 hz1 hz2 rfl (by decide) u8 _ _ rfl M2 [.int .i64 x0, .int .i64 x1, .int .i64 x2] rfl rfl H1.out HM.out.1 HM.out.2 hz2' ?_)
        intro v5 w5 o5 c5 b5 l5
        have FIN : Hid _ := And.intro o5 (And.intro (owns_chg R2'.out c5 (fun g hg h => DN.out g h hg)) (And.intro (show ∀ g, v5.ownBlock = some g → ¬ Value.ownBlock u9 = some g from fun g hg h9 => by
          rcases l5 g hg with h | h
          · exact DN.out g h h9
          · have := LR.out g h9; omega) (And.intro (S2.out.chg c5 (fun h => by have := LM'.out _ h; omega)) (And.intro (B2.out.trans (b5.mono (Nat.le_succ _))) (Nat.le_trans hz2' b5.size)))))
        clear o5 b5 c5 l5 M2 g0 g1 g2 g3 g4
        go_wp2
        go_roundw
        case rel => exact ⟨j + 1, by omega, by go_num, by rw [DM.out, flatM_append, List.length_append]; exact FIN.out.1, by rw [DR.out]; exact FIN.out.2.1, FIN.out.2.2.1, FIN.out.2.2.2.1, FIN.out.2.2.2.2.1, FIN.out.2.2.2.2.2⟩
        case measure => simp [intOf]; omega
      · have DM : Hid (fm (j + 1) = fm j) := MS1.out.trans (if_neg hq)
        have DR : Hid (fr (j + 1) = fr j ++ [(x0, x1, x2)]) := RS1.out.trans (if_neg hq)
        have M2' : Hid _ := M2
        clear MS1 RS1 M2
        have e4 : ((P : Int) == (i : Int)) = false := by rw [beq_eq_false_iff_ne]; omega
        go_wp2_with (at_builtin; refine app_oneL w2 w2.heap.size rfl rfl _ _ 27 rfl (w.heap.size + 1) 37 i0 _ 3 24 Tryz.underlying27 hi0 hz0 hz1 hz2 rfl (by decide) u9 _ _ rfl R2 [.int .i64 x0, .int .i64 x1, .int .i64 x2] rfl rfl H1.out HR.out.1 HR.out.2 hz2' ?_)
        intro v5 w5 o5 c5 b5 l5
        have FIN : Hid _ := And.intro o5 (And.intro (owns_chg M2'.out c5 (fun g hg h => DN.out g hg h)) (And.intro (show ∀ g, Value.ownBlock u8 = some g → ¬ v5.ownBlock = some g from fun g h8 hg => by
          rcases l5 g hg with h | h
          · exact DN.out g h8 h
          · have := LM.out g h8; omega) (And.intro (S2.out.chg c5 (fun h => by have := LR'.out _ h; omega)) (And.intro (B2.out.trans (b5.mono (Nat.le_succ _))) (Nat.le_trans hz2' b5.size)))))
        clear o5 b5 c5 l5 R2 g0 g1 g2 g3 g4
        go_wp2
        go_roundw
        case rel => exact ⟨j + 1, by omega, by go_num, by rw [DM.out]; exact FIN.out.2.1, by rw [DR.out, flatM_append, List.length_append]; exact FIN.out.1, FIN.out.2.2.1, FIN.out.2.2.2.1, FIN.out.2.2.2.2.1, FIN.out.2.2.2.2.2⟩
        case measure => simp [intOf]; omega
    · have hjj : j = n4 := by omega
      subst hjj
      clear e0 e1 e2 ha4
      rw [MF.out] at MN
      rw [RF.out] at RN
      go_wp2
      go_ret2
      exact ⟨_, _, rfl, owns_mono MN.out (Nat.le_succ _), owns_mono RN.out (Nat.le_succ _), BN.out⟩

end Go.Proofs.YtmpiijphpnjlnaaGreat
