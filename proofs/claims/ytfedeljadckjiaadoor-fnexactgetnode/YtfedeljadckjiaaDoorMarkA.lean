/-
  The laws' markTree and heldTree at what GetNode tells.
-/
import Derived.Test.YtfedeljadckjiaaDoorMarkN
namespace Go.Proofs.YtfedeljadckjiaaDoor
open Go.RowKit

/-- a row of messages of its own, or an empty one, is marked -/
theorem markMsgS_e (base : Nat) (v : Value) (l : ML) (k : Int) (w : World) (h : OwnE w base 75 3 v l.length (flatM l)) (hn : l.length ≤ 10) (hk0 : 0 ≤ k) (hk1 : k ≤ 100000) :
    Calls Tryd.prog 68 #[v, .int .i64 k] w fun e w' => e = .returned (.int .i64 (k + 3 * l.length)) ∧ OwnE w' base 75 3 v l.length (flatM (marksM k l.length)) ∧ Chg (fun g => wrB v g) w w' := by
  rcases h with h | ⟨h0, h1, g, rfl⟩
  · obtain ⟨a, cap, hv⟩ := owns_val h
    subst hv
    by_cases hc : 0 < l.length
    · refine (markMsgS_any _ l k w (owns_mono h (Nat.zero_le _)) (by omega) hk0 (by omega)).mono ?_
      rintro e w' ⟨rfl, o, c⟩
      have hb : ∀ g, (Value.slice a l.length cap).ownBlock = some g → wrB (.slice a l.length cap) g := fun g hg => by
        obtain ⟨_, ⟨e, e2⟩ | ⟨g', cap', cur, e, _, _, hle, _⟩⟩ := h
        · omega
        · simp at e
          obtain ⟨rfl, rfl⟩ := e
          simp [Value.ownBlock] at hg
          subst hg
          exact ⟨_, _, rfl, by omega⟩
      refine ⟨rfl, .inl ?_, c.mono (fun g _ hg => hb g hg)⟩
      obtain ⟨hl, h1 | ⟨g, cap', cur, e, hg, hh, hn', hcap, hsz, ht⟩⟩ := o
      · exact ⟨hl, .inl h1⟩
      · exact ⟨hl, .inr ⟨g, cap', cur, e, (h.lt g (by rw [e]; rfl)).1, hh, hn', hcap, hsz, ht⟩⟩
    · have hl : l = [] := List.length_eq_zero_iff.1 (by omega)
      subst hl
      refine (markMsgS_nil a cap k w).mono ?_
      rintro e w' ⟨rfl, rfl⟩
      exact ⟨by simp, .inl h, Chg.refl _ _⟩
  · have hl : l = [] := List.length_eq_zero_iff.1 h0
    subst hl
    refine (markMsgS_nil _ 0 k w).mono ?_
    rintro e w' ⟨rfl, rfl⟩
    exact ⟨by simp, .inr ⟨rfl, rfl, g, rfl⟩, Chg.refl _ _⟩
/-- a row of pairs of its own, or an empty one, is marked -/
theorem markPairS_e (base : Nat) (v : Value) (l : List (Int × Int)) (k : Int) (w : World) (h : OwnE w base 73 2 v l.length (flatP l)) (hn : l.length ≤ 10) (hk0 : 0 ≤ k) (hk1 : k ≤ 100000) :
    Calls Tryd.prog 66 #[v, .int .i64 k] w fun e w' => e = .returned (.int .i64 (k + 2 * l.length)) ∧ OwnE w' base 73 2 v l.length (flatP (marksP k l.length)) ∧ Chg (fun g => wrB v g) w w' := by
  rcases h with h | ⟨h0, h1, g, rfl⟩
  · obtain ⟨a, cap, hv⟩ := owns_val h
    subst hv
    by_cases hc : 0 < l.length
    · refine (markPairS_any _ l k w (owns_mono h (Nat.zero_le _)) (by omega) hk0 (by omega)).mono ?_
      rintro e w' ⟨rfl, o, c⟩
      have hb : ∀ g, (Value.slice a l.length cap).ownBlock = some g → wrB (.slice a l.length cap) g := fun g hg => by
        obtain ⟨_, ⟨e, e2⟩ | ⟨g', cap', cur, e, _, _, hle, _⟩⟩ := h
        · omega
        · simp at e
          obtain ⟨rfl, rfl⟩ := e
          simp [Value.ownBlock] at hg
          subst hg
          exact ⟨_, _, rfl, by omega⟩
      refine ⟨rfl, .inl ?_, c.mono (fun g _ hg => hb g hg)⟩
      obtain ⟨hl, h1 | ⟨g, cap', cur, e, hg, hh, hn', hcap, hsz, ht⟩⟩ := o
      · exact ⟨hl, .inl h1⟩
      · exact ⟨hl, .inr ⟨g, cap', cur, e, (h.lt g (by rw [e]; rfl)).1, hh, hn', hcap, hsz, ht⟩⟩
    · have hl : l = [] := List.length_eq_zero_iff.1 (by omega)
      subst hl
      refine (markPairS_nil a cap k w).mono ?_
      rintro e w' ⟨rfl, rfl⟩
      exact ⟨by simp, .inl h, Chg.refl _ _⟩
  · have hl : l = [] := List.length_eq_zero_iff.1 h0
    subst hl
    refine (markPairS_nil _ 0 k w).mono ?_
    rintro e w' ⟨rfl, rfl⟩
    exact ⟨by simp, .inr ⟨rfl, rfl, g, rfl⟩, Chg.refl _ _⟩
theorem ownB_ne {w : World} {b e s n : Nat} {v : Value} {xs : List Value} (h : w.ownsRow b e s v n xs) {M t : Nat} {c : Array Value} (hM : w.heap[M]? = some (.cells c t (0, 0))) (ht : t ≠ e) {g : Nat} (hg : v.ownBlock = some g) : ¬ g = M := by
  rintro rfl
  obtain ⟨_, c1, e1⟩ := owns_lt h hg
  rw [e1] at hM
  simp at hM
  exact ht hM.2.symm
theorem wrB_ty {w : World} {b e s n : Nat} {v : Value} {xs : List Value} (h : OwnE w b e s v n xs) {g : Nat} (hg : wrB v g) : ∃ cur, w.heap[g]? = some (.cells cur e (0, 0)) := by
  obtain ⟨k, cap, rfl, hc⟩ := hg
  rcases h with h | ⟨_, _, g', h'⟩
  · exact (owns_lt h (g := g) rfl).2
  · simp at h'; omega

/-- all its blocks lie below hi -/
def AnsB (hi : Nat) (vt vk : Value) : Option NodeV → Prop
  | none => True
  | some (.inl _) => ∀ vp, vt = .agg #[.bool true, vp, .slice none 0 0, .slice none 0 0, .slice none 0 0] → ∀ g, wrB vp g → g < hi
  | some (.inr f) => ∀ vc vb M, vt = .agg #[.bool false, .slice none 0 0, vc, .slice (some ⟨M, 0, none⟩) f.kids.length f.kids.length, vb] → (∀ g, vc.ownBlock = some g → g < hi) ∧ (∀ g, wrB vb g → g < hi) ∧ M < hi ∧ (∀ g, vk.ownBlock = some g → g < hi)
theorem AnsV.hi {base : Nat} {w : World} {vt vk : Value} {g : Option NodeV} (h : AnsV base w vt vk g) : AnsB w.heap.size vt vk g := by
  cases g with
  | none => trivial
  | some nv =>
    obtain ⟨h, _⟩ := h
    cases nv with
    | inl l =>
      obtain ⟨vp, rfl, rfl, o⟩ := h
      intro vp' e g hg
      simp at e
      subst e
      exact (o.lt g hg).2
    | inr f =>
      obtain ⟨vc, vb, M, N, rfl, h2, h3, h4, h5, h6, h7, h8⟩ := h
      intro vc' vb' M' e
      simp at e
      obtain ⟨rfl, rfl, rfl⟩ := e
      exact ⟨fun g hg => (World.ownsRow.lt h5 g hg).2, fun g hg => (h6.lt g hg).2, (Array.getElem?_eq_some_iff.1 h8).1, fun g hg => (World.ownsRow.lt h3 g hg).2⟩

set_option maxRecDepth 100000 in
set_option maxHeartbeats 2000000 in
theorem markTree_ans (base hi : Nat) (vt vk : Value) (g : Option NodeV) (w : World) (h : AnsV base w vt vk g) (hB : AnsB hi vt vk g) :
    Calls Tryd.prog 32 #[vt, .int .i64 1] w fun e w' => e = .returned (.int .i64 (1 + mtN g)) ∧ AnsT base w' vt vk g ∧ Chg (fun g => base ≤ g ∧ g < hi) w w' := by
  cases g with
  | none =>
    obtain ⟨rfl, rfl⟩ := h
    have hz : treeZ = .agg #[.bool false, .slice none 0 0, .slice none 0 0, .slice none 0 0, .slice none 0 0] := rfl
    rw [hz]
    go_enter Tryd.func32, Tryd.ntmps32
    go_wp2_with fail
    refine (markPairS_nil none 0 1 _).mono ?_
    rintro e u1 ⟨rfl, hu⟩
    subst hu
    go_wp2_with fail
    refine (markIntS_nil none 0 1 _).mono ?_
    rintro e u1 ⟨rfl, hu⟩
    subst hu
    go_wp2_with fail
    refine (markTreeS_nil none 0 1 _).mono ?_
    rintro e u1 ⟨rfl, hu⟩
    subst hu
    go_wp2_with fail
    refine (markMsgS_nil none 0 1 _).mono ?_
    rintro e u1 ⟨rfl, hu⟩
    subst hu
    go_wp2
    go_ret
    exact ⟨by simp [mtN], ⟨rfl, rfl⟩, Chg.of_below (bel_new _ _)⟩
  | some nv =>
    obtain ⟨h, hok⟩ := h
    cases nv with
    | inl l =>
      obtain ⟨vp, rfl, rfl, o⟩ := h
      obtain ⟨ap, qp, hv⟩ := o.slice
      subst hv
      have hl4 : l.length ≤ 4 := hok
      have O : Hid (OwnE w base 73 2 (.slice ap l.length qp) l.length (flatP l)) := o
      have HBB : Hid (∀ vp, (Value.agg #[.bool true, .slice ap l.length qp, .slice none 0 0, .slice none 0 0, .slice none 0 0]) = .agg #[.bool true, vp, .slice none 0 0, .slice none 0 0, .slice none 0 0] → ∀ g, wrB vp g → g < hi) := hB
      clear hB
      have Z := heap_alloc_new w (.cells #[.bool true, .slice ap l.length qp, .slice none 0 0, .slice none 0 0, .slice none 0 0] 29)
      have B := bel_new w (.cells #[.bool true, .slice ap l.length qp, .slice none 0 0, .slice none 0 0, .slice none 0 0] 29)
      clear o hok
      go_enter Tryd.func32, Tryd.ntmps32
      go_wp2_with fail
      generalize w.alloc (.cells #[.bool true, .slice ap l.length qp, .slice none 0 0, .slice none 0 0, .slice none 0 0] 29) = W at *
      refine (markPairS_e base _ l 1 W (O.out.below B) (by omega) (by decide) (by decide)).mono ?_
      rintro e u1 ⟨rfl, r1, c1⟩
      have z1 := row_chg Z c1 (fun e => by have := (O.out.lt _ e).2; omega)
      have e2 : u1.cell? ⟨w.heap.size, 2, none⟩ = some (.slice none 0 0) := by rw [cell_of_cells z1]; rfl
      have e3 : u1.cell? ⟨w.heap.size, 3, none⟩ = some (.slice none 0 0) := by rw [cell_of_cells z1]; rfl
      have e4 : u1.cell? ⟨w.heap.size, 4, none⟩ = some (.slice none 0 0) := by rw [cell_of_cells z1]; rfl
      have FIN : Hid (Row u1 (.slice ap l.length qp) l.length (flatP (marksP 1 l.length)) ∧ Chg (fun g => base ≤ g ∧ g < hi) w u1) := ⟨r1.row', (Chg.of_below B).trans c1 (fun g _ hg => ⟨(O.out.lt g hg).1, HBB.out _ rfl g hg⟩)⟩
      clear r1 c1 z1 Z B
      go_wp2_with fail
      refine (markIntS_nil none 0 _ _).mono ?_
      rintro e u2 ⟨rfl, hu⟩
      subst hu
      go_wp2_with fail
      refine (markTreeS_nil none 0 _ _).mono ?_
      rintro e u2 ⟨rfl, hu⟩
      subst hu
      go_wp2_with fail
      refine (markMsgS_nil none 0 _ _).mono ?_
      rintro e u2 ⟨rfl, hu⟩
      subst hu
      go_wp2
      go_ret
      exact ⟨rfl, ⟨_, rfl, rfl, FIN.out.1, by omega⟩, FIN.out.2⟩
    | inr f =>
      obtain ⟨vc, vb, M, N, rfl, h2, h3, h4, h5, h6, h7, h8⟩ := h
      obtain ⟨hk1, hk4, hcu, hbu⟩ := hok
      obtain ⟨ac, qc, hv⟩ := owns_val h5
      subst hv
      obtain ⟨am, qm, hv⟩ := h6.slice
      subst hv
      have ok := kids_own h8 (by omega)
      have HBB : Hid _ := hB _ _ _ rfl
      clear hB
      have Z := heap_alloc_new w (.cells #[.bool false, .slice none 0 0, .slice ac f.cuts.length qc, .slice (some ⟨M, 0, none⟩) f.kids.length f.kids.length, .slice am f.buf.length qm] 29)
      have B := bel_new w (.cells #[.bool false, .slice none 0 0, .slice ac f.cuts.length qc, .slice (some ⟨M, 0, none⟩) f.kids.length f.kids.length, .slice am f.buf.length qm] 29)
      have O : Hid _ := And.intro h3 (And.intro h4 (And.intro h5 (And.intro h6 (And.intro h7 (And.intro h8 ok)))))
      have hc3 : f.cuts.length ≤ 3 := by omega
      have HCU : Hid (f.cuts.length + 1 = f.kids.length) := hcu
      clear h3 h4 h5 h6 h7 h8 ok hcu
      go_enter Tryd.func32, Tryd.ntmps32
      go_wp2_with fail
      generalize w.alloc (.cells #[.bool false, .slice none 0 0, .slice ac f.cuts.length qc, .slice (some ⟨M, 0, none⟩) f.kids.length f.kids.length, .slice am f.buf.length qm] 29) = W at *
      refine (markPairS_nil none 0 1 W).mono ?_
      rintro e u0 ⟨rfl, hu⟩
      rw [hu]
      clear hu
      obtain ⟨h3, h4, h5, h6, h7, h8, ok⟩ := O.out
      have o5 : W.ownsRow N 3 1 (.slice ac f.cuts.length qc) f.cuts.length (flatI f.cuts) := owns_below h5 B
      have x2 : W.cell? ⟨w.heap.size, 2, none⟩ = some (.slice ac f.cuts.length qc) := by rw [cell_of_cells Z]; rfl
      have HB : Hid _ := And.intro Z B
      clear Z B h3 h4 h5 h6 h7 h8 ok
      go_wp2_with fail
      refine (markIntS_s _ f.cuts 1 W (owns_mono o5 (Nat.zero_le _)) (by omega) (by decide) (by decide)).mono ?_
      rintro e u1 ⟨rfl, q5, c1⟩
      obtain ⟨h3, h4, h5, h6, h7, h8, ok⟩ := O.out
      obtain ⟨Z, B⟩ := HB.out
      have lt5 : ∀ g, (Value.slice ac f.cuts.length qc).ownBlock = some g → N ≤ g ∧ g < w.heap.size := fun g hg => World.ownsRow.lt h5 g hg
      have z1 := row_chg Z c1 (fun e => by have := (lt5 _ e).2; omega)
      have k1 : OwnI base u1 vk f.kids := owns_chg (owns_below h3 B) c1 (fun g hg e => by have := h4 g hg; have := (lt5 g e).1; omega)
      have m1 := (h6.below B).chg c1 (fun g hg e => by
        obtain ⟨cur, e1⟩ := wrB_ty h6 hg
        obtain ⟨_, c2, e2⟩ := owns_lt h5 e
        rw [e1] at e2; simp at e2)
      have t1 := owns_chg (owns_below ok B) c1 (fun g hg e => by
        obtain ⟨_, c3, e3⟩ := owns_lt ok hg
        obtain ⟨_, c2, e2⟩ := owns_lt h5 e
        rw [e3] at e2; simp at e2)
      have q5' : u1.ownsRow N 3 1 (.slice ac f.cuts.length qc) f.cuts.length (flatI (marksI 1 f.cuts.length)) := by
        obtain ⟨hl, h1 | ⟨g, cap', cur, e, hg, hh, hn', hcap, hsz, ht⟩⟩ := q5
        · exact ⟨hl, .inl h1⟩
        · exact ⟨hl, .inr ⟨g, cap', cur, e, (lt5 g (by rw [e]; rfl)).1, hh, hn', hcap, hsz, ht⟩⟩
      have C1 : Chg (fun g => base ≤ g ∧ g < hi) w u1 := (Chg.of_below B).trans c1 (fun g _ hg => ⟨Nat.le_trans h2 (lt5 g hg).1, HBB.out.1 g hg⟩)
      have hM : u1.heap[M]? = w.heap[M]? := by
        have hMw : M < w.heap.size := (Array.getElem?_eq_some_iff.1 h8).1
        rw [c1.block M (by have := B.size; omega) (fun e => ownB_ne h5 h8 (by decide) e rfl), B.block M hMw]
      have x3 : u1.cell? ⟨w.heap.size, 3, none⟩ = some (.slice (some ⟨M, 0, none⟩) f.kids.length f.kids.length) := by rw [cell_of_cells z1]; rfl
      have J : Hid _ := And.intro z1 (And.intro k1 (And.intro m1 (And.intro t1 (And.intro q5' C1))))
      clear h3 h4 h5 h6 h8 ok Z B z1 k1 m1 t1 q5' C1 c1 q5 lt5 o5 x2 hM
      have hk9 : (0 : Int) ≤ 1 + f.cuts.length := by omega
      have hk8 : (1 : Int) + f.cuts.length ≤ 100000 := by omega
      go_wp2_with fail
      refine (markTreeS_z M f.kids.length (1 + f.cuts.length) u1 (owns_mono J.out.2.2.2.1 (Nat.zero_le _)) (by omega) hk9 (by omega)).mono ?_
      rintro e u2 ⟨rfl, t2, c2⟩
      obtain ⟨z1, k1, m1, t1, q5, C1⟩ := J.out
      have MM : ∃ cur, u1.heap[M]? = some (.cells cur 29 (0, 0)) := (owns_lt t1 (g := M) rfl).2
      obtain ⟨curM, hMM⟩ := MM
      have Mlt : N ≤ M ∧ M < w.heap.size := ⟨h7, (Array.getElem?_eq_some_iff.1 O.out.2.2.2.2.2.1).1⟩
      have z2 := row_chg z1 c2 (by omega)
      have k2 : OwnI base u2 vk f.kids := owns_chg k1 c2 (fun g hg e => ownB_ne k1 hMM (by decide) hg e)
      have m2 := m1.chg c2 (fun g hg e => by
        obtain ⟨cur, e1⟩ := wrB_ty m1 hg
        subst e
        rw [hMM] at e1; simp at e1)
      have q2 : OwnI N u2 (.slice ac f.cuts.length qc) (marksI 1 f.cuts.length) := by
        have := owns_chg q5 c2 (fun g hg e => ownB_ne q5 hMM (by decide) hg e)
        unfold OwnI
        rw [marksI_length]
        exact this
      have t2' : u2.ownsRow N 29 5 (.slice (some ⟨M, 0, none⟩) f.kids.length f.kids.length) f.kids.length (flatT (marksK (1 + f.cuts.length) f.kids.length)) := by
        obtain ⟨hl, h1 | ⟨g, cap', cur, e, hg, hh, hn', hcap, hsz, ht⟩⟩ := t2
        · exact ⟨hl, .inl h1⟩
        · have hgM : g = M := by simp at e; exact e.1.symm
          exact ⟨hl, .inr ⟨g, cap', cur, e, by omega, hh, hn', hcap, hsz, ht⟩⟩
      have C2 : Chg (fun g => base ≤ g ∧ g < hi) w u2 := C1.trans c2 (fun g _ hg => ⟨by omega, by rw [hg]; exact HBB.out.2.2.1⟩)
      have x4 : u2.cell? ⟨w.heap.size, 4, none⟩ = some (.slice am f.buf.length qm) := by rw [cell_of_cells z2]; rfl
      have L : Hid _ := And.intro k2 (And.intro m2 (And.intro q2 (And.intro t2' C2)))
      clear z1 k1 m1 t1 q5 C1 hMM z2 k2 m2 q2 t2 t2' C2 c2 x3 J curM
      have hk7 : (0 : Int) ≤ 1 + f.cuts.length + f.kids.length := by omega
      have hk6 : (1 : Int) + f.cuts.length + f.kids.length ≤ 100000 := by omega
      go_wp2_with fail
      refine (markMsgS_e N _ f.buf (1 + f.cuts.length + f.kids.length) u2 L.out.2.1 (by omega) hk7 hk6).mono ?_
      rintro e u3 ⟨rfl, m3, c3⟩
      obtain ⟨k2, m2, q2, t2, C2⟩ := L.out
      have FIN : Hid (AnsT base u3 (.agg #[.bool false, .slice none 0 0, .slice ac f.cuts.length qc, .slice (some ⟨M, 0, none⟩) f.kids.length f.kids.length, .slice am f.buf.length qm]) vk (some (.inr f)) ∧ Chg (fun g => base ≤ g ∧ g < hi) w u3) := by
        refine ⟨⟨_, _, M, N, rfl, ⟨by omega, by omega, by omega⟩, h2, ?_, O.out.2.1, ?_, m3, ?_⟩, C2.trans c3 (fun g _ hg => ⟨by have := (m2.lt g hg).1; omega, HBB.out.2.1 g hg⟩)⟩
        · exact owns_chg k2 c3 (fun g hg e => by
            obtain ⟨cur, e1⟩ := wrB_ty m2 e
            obtain ⟨_, c2, e2⟩ := owns_lt k2 hg
            rw [e1] at e2; simp at e2)
        · exact owns_chg q2 c3 (fun g hg e => by
            obtain ⟨cur, e1⟩ := wrB_ty m2 e
            obtain ⟨_, c2, e2⟩ := owns_lt q2 hg
            rw [e1] at e2; simp at e2)
        · exact owns_chg t2 c3 (fun g hg e => by
            obtain ⟨cur, e1⟩ := wrB_ty m2 e
            obtain ⟨_, c2, e2⟩ := owns_lt t2 hg
            rw [e1] at e2; simp at e2)
      clear k2 m2 q2 t2 C2 m3 c3 L x4
      go_wp2
      go_ret
      refine ⟨ret_int ?_, FIN.out⟩
      simp only [mtN]
      omega

end Go.Proofs.YtfedeljadckjiaaDoor
