/-
  The laws' markIntS, heldTree and heldIntS at what GetNode tells.
-/
import Derived.Test.YtfedeljadckjiaaDoorMarkA
namespace Go.Proofs.YtfedeljadckjiaaDoor
open Go.RowKit

def mkN : Option NodeV → Int
  | none => 0
  | some (.inl _) => 0
  | some (.inr f) => f.kids.length
theorem mtN_in {base : Nat} {w : World} {vt vk : Value} {g : Option NodeV} (h : AnsT base w vt vk g) : 0 ≤ mtN g ∧ mtN g ≤ 100 ∧ 0 ≤ mkN g ∧ mkN g ≤ 10 := by
  cases g with
  | none => simp [mtN, mkN]
  | some nv => cases nv with
    | inl l => obtain ⟨vp, h1, h2, h3, h4⟩ := h; simp only [mtN, mkN]; omega
    | inr f => obtain ⟨vc, vb, M, N, h1, ⟨a, b, c⟩, _⟩ := h; simp only [mtN, mkN]; omega

theorem markIntS_ans (base hi : Nat) (vt vk : Value) (g : Option NodeV) (w : World) (h : AnsT base w vt vk g) (hB : AnsB hi vt vk g) :
    Calls Tryd.prog 33 #[vk, .int .i64 (1 + mtN g)] w fun e w' => e = .returned (.int .i64 (1 + mtN g + mkN g)) ∧ AnsM w' vt vk g ∧ Chg (fun g => base ≤ g ∧ g < hi) w w' := by
  have hin := mtN_in h
  cases g with
  | none =>
    obtain ⟨rfl, rfl⟩ := h
    refine (markIntS_nil none 0 _ w).mono ?_
    rintro e w' ⟨rfl, rfl⟩
    exact ⟨by simp [mkN], ⟨rfl, rfl⟩, Chg.refl _ _⟩
  | some nv => cases nv with
    | inl l =>
      obtain ⟨vp, rfl, rfl, h3, h4⟩ := h
      refine (markIntS_nil none 0 _ w).mono ?_
      rintro e w' ⟨rfl, rfl⟩
      exact ⟨by simp [mkN], ⟨vp, rfl, rfl, h3, h4⟩, Chg.refl _ _⟩
    | inr f =>
      obtain ⟨vc, vb, M, N, rfl, h2, h3, h4, h5, h6, h7, h8⟩ := h
      refine (markIntS_s vk f.kids _ w (owns_mono h4 (Nat.zero_le _)) (by omega) (by omega) (by omega)).mono ?_
      rintro e w' ⟨rfl, o, c⟩
      refine ⟨rfl, ⟨vc, vb, _, rfl, h2, ?_, ?_, ?_, ?_⟩, c.mono (fun g _ hg => ⟨(World.ownsRow.lt h4 g hg).1, (hB _ _ _ rfl).2.2.2 g hg⟩)⟩
      · have e : (1 : Int) + mtN (some (.inr f)) = 1 + f.cuts.length + f.kids.length + 3 * f.buf.length := by simp only [mtN]; omega
        rw [← e]
        exact Row.of_owns o
      · have := Row.of_owns (owns_chg h6 c (fun g hg e => by have := (World.ownsRow.lt h6 g hg).1; have := h5 g e; omega))
        rw [marksI_length] at this
        exact this
      · exact (h7.chg c (fun g hg e => by have := (h7.lt g hg).1; have := h5 g e; omega)).row'
      · exact Row.of_owns (owns_chg h8 c (fun g hg e => by have := (h8.lt g hg).1; have := h5 g e; omega))

theorem heldIntS_ans (vt vk : Value) (g : Option NodeV) (w : World) (h : AnsM w vt vk g) :
    Calls Tryd.prog 37 #[vk, .int .i64 (1 + mtN g)] w fun e w' => e = .returned (.int .i64 (1 + mtN g + mkN g)) ∧ Below w.heap.size w w' := by
  cases g with
  | none =>
    obtain ⟨rfl, rfl⟩ := h
    refine (heldIntS_nil none 0 _ w).mono ?_
    rintro e w' ⟨rfl, rfl⟩
    exact ⟨by simp [mkN], Below.refl _ _⟩
  | some nv => cases nv with
    | inl l =>
      obtain ⟨vp, rfl, rfl, h3, h4⟩ := h
      refine (heldIntS_nil none 0 _ w).mono ?_
      rintro e w' ⟨rfl, rfl⟩
      exact ⟨by simp [mkN], Below.refl _ _⟩
    | inr f =>
      obtain ⟨vc, vb, vm, rfl, ⟨a1, a2, a3⟩, h3, h4, h5, h6⟩ := h
      have e : (1 : Int) + mtN (some (.inr f)) = 1 + f.cuts.length + f.kids.length + 3 * f.buf.length := by simp only [mtN]; omega
      rw [← e] at h3
      refine (heldIntS_s vk f.kids.length _ w h3 (by omega) (by simp only [mtN]; omega) (by simp only [mtN]; omega)).mono ?_
      rintro e w' ⟨rfl, rfl⟩
      exact ⟨rfl, Below.refl _ _⟩

set_option maxRecDepth 100000 in
set_option maxHeartbeats 2000000 in
theorem heldTree_ans (vt vk : Value) (g : Option NodeV) (w : World) (h : AnsM w vt vk g) :
    Calls Tryd.prog 36 #[vt, .int .i64 1] w fun e w' => e = .returned (.int .i64 (1 + mtN g)) ∧ Below w.heap.size w w' := by
  cases g with
  | none =>
    obtain ⟨rfl, rfl⟩ := h
    have hz : treeZ = .agg #[.bool false, .slice none 0 0, .slice none 0 0, .slice none 0 0, .slice none 0 0] := rfl
    rw [hz]
    go_enter Tryd.func36, Tryd.ntmps36
    go_wp2_with fail
    refine (heldPairS_nil none 0 1 _).mono ?_
    rintro e u1 ⟨rfl, hu⟩
    subst hu
    go_wp2_with fail
    refine (heldIntS_nil none 0 1 _).mono ?_
    rintro e u1 ⟨rfl, hu⟩
    subst hu
    go_wp2_with fail
    refine (heldTreeS_nil none 0 1 _).mono ?_
    rintro e u1 ⟨rfl, hu⟩
    subst hu
    go_wp2_with fail
    refine (heldMsgS_nil none 0 1 _).mono ?_
    rintro e u1 ⟨rfl, hu⟩
    subst hu
    go_wp2
    go_ret
    exact ⟨by simp [mtN], bel_new _ _⟩
  | some nv => cases nv with
    | inl l =>
      obtain ⟨vp, rfl, rfl, h3, h4⟩ := h
      obtain ⟨ap, qp, hv, _⟩ := h3.len
      subst hv
      have R : Hid _ := h3.below (bel_new w (.cells #[.bool true, .slice ap l.length qp, .slice none 0 0, .slice none 0 0, .slice none 0 0] 29))
      clear h3
      have hk : ¬ (1 : Int) + 2 * l.length < 0 := by omega
      go_enter Tryd.func36, Tryd.ntmps36
      go_wp2_with fail
      refine (heldPairS_any _ l.length 1 _ R.out (by omega) (by decide) (by decide)).mono ?_
      rintro e u1 ⟨rfl, hu⟩
      subst hu
      go_wp2_with fail
      refine (heldIntS_nil none 0 _ _).mono ?_
      rintro e u1 ⟨rfl, hu⟩
      subst hu
      go_wp2_with fail
      refine (heldTreeS_nil none 0 _ _).mono ?_
      rintro e u1 ⟨rfl, hu⟩
      subst hu
      go_wp2_with fail
      refine (heldMsgS_nil none 0 _ _).mono ?_
      rintro e u1 ⟨rfl, hu⟩
      subst hu
      go_wp2
      go_ret
      exact ⟨rfl, bel_new _ _⟩
    | inr f =>
      obtain ⟨vc, vb, vm, rfl, ⟨a1, a2, a3⟩, h3, h4, h5, h6⟩ := h
      obtain ⟨ac, qc, hv, _⟩ := h4.len
      subst hv
      obtain ⟨ab, qb, hv, _⟩ := h5.len
      subst hv
      obtain ⟨am, qm, hv, _⟩ := h6.len
      subst hv
      have B := bel_new w (.cells #[.bool false, .slice none 0 0, .slice ac f.cuts.length qc, .slice am f.kids.length qm, .slice ab f.buf.length qb] 29)
      have R : Hid _ := And.intro (h4.below B) (And.intro (h6.below B) (h5.below B))
      clear h3 h4 h5 h6 B
      have hk1 : ¬ (1 : Int) + f.cuts.length < 0 := by omega
      have hk2 : ¬ (1 : Int) + f.cuts.length + f.kids.length < 0 := by omega
      have hk3 : ¬ (1 : Int) + f.cuts.length + f.kids.length + 3 * f.buf.length < 0 := by omega
      go_enter Tryd.func36, Tryd.ntmps36
      go_wp2_with fail
      refine (heldPairS_nil none 0 1 _).mono ?_
      rintro e u1 ⟨rfl, hu⟩
      subst hu
      go_wp2_with fail
      refine (heldIntS_s _ f.cuts.length 1 _ R.out.1 (by omega) (by decide) (by decide)).mono ?_
      rintro e u1 ⟨rfl, hu⟩
      subst hu
      go_wp2_with fail
      refine (heldTreeS_z _ f.kids.length (1 + f.cuts.length) _ R.out.2.1 (by omega) (by omega) (by omega)).mono ?_
      rintro e u1 ⟨rfl, hu⟩
      subst hu
      go_wp2_with fail
      refine (heldMsgS_any _ f.buf.length (1 + f.cuts.length + f.kids.length) _ R.out.2.2 (by omega) (by omega) (by omega)).mono ?_
      rintro e u1 ⟨rfl, hu⟩
      subst hu
      go_wp2
      go_ret
      refine ⟨ret_int ?_, bel_new _ _⟩
      simp only [mtN]
      omega

end Go.Proofs.YtfedeljadckjiaaDoor
