/-
  The sorted map's drop, by a contract.
-/
import Derived.Test.YtccdleafkhnfmaaGreatPart1
namespace Go.Proofs.YtccdleafkhnfmaaGreat
open Go.RowKit

set_option maxHeartbeats 1000000 in
theorem drop_none (B : Nat) (F : Nat → Prop) (ks vs : List Int) (k : Int) (w : World) (h : Srt w B F ks vs) (hs : ks.Pairwise (· ≤ ·)) (hbig : ks.length ≤ 1048576) (hf : ks.contains k = false) :
    Calls Tryz.prog 83 #[.pointer (some ⟨B, 0, none⟩), .int .i64 k] w fun e w' =>
      e = .returned (.tuple #[]) ∧ ∃ q, w' = w.drewN q := by
  obtain ⟨kv, vv, h1, h2, h3, h4, h5, h6, h7⟩ := h
  obtain ⟨ka, kc, hkv⟩ := owns_val h2
  have c0 : w.cell? ⟨B, 0, none⟩ = some (.slice ka ks.length kc) := by rw [cell_of_cells h1, ← hkv]; rfl
  have SO := search_own kv ks k w h2 hs (by omega)
  rw [hf, hkv] at SO
  have S2 : Hid _ := (fun (_ : Nat) => SO)
  clear SO h1 h2 h3 h4 h5 h6 h7 hkv hs hf
  generalize ks.countP (fun x => decide (x < k)) = p at *
  go_enter Tryz.func83, Tryz.ntmps83
  go_wp2_with fail
  refine (S2.out 0).mono ?_
  rintro e w1 ⟨rfl, q, rfl⟩
  go_wp2
  exact bodyPost_ret (v := .tuple #[]) (by simp [results, Tryz.results83, go_sem]) rfl ⟨rfl, q, rfl⟩

set_option maxHeartbeats 1000000 in
theorem drop_found (B : Nat) (F : Nat → Prop) (ks vs : List Int) (k : Int) (w : World) (h : Srt w B F ks vs) (hs : ks.Pairwise (· ≤ ·)) (hl : vs.length = ks.length) (hbig : ks.length ≤ 1048576) (hf : ks.contains k = true) :
    Calls Tryz.prog 83 #[.pointer (some ⟨B, 0, none⟩), .int .i64 k] w fun e w' =>
      e = .returned (.tuple #[]) ∧ ∃ F', Srt w' B F' (ks.take (ks.countP (· < k)) ++ ks.drop (ks.countP (· < k) + 1)) (vs.take (ks.countP (· < k)) ++ vs.drop (ks.countP (· < k) + 1)) ∧ Chg F w w' ∧ (∀ g, F' g → F g ∨ w.heap.size ≤ g) := by
  obtain ⟨kv, vv, h1, h2, h3, h4, h5, h6, h7⟩ := h
  have HL : Hid (vs.length = ks.length) := hl
  clear hl
  have hp : ks.countP (fun x => decide (x < k)) < ks.length := found_lt hf
  obtain ⟨ka, kc, hkv⟩ := owns_val h2
  obtain ⟨va, vc, hvv⟩ := owns_val h3
  have SO := search_own kv ks k w h2 hs (by omega)
  rw [hf] at SO
  generalize ks.countP (fun x => decide (x < k)) = p at *
  have c0 : w.cell? ⟨B, 0, none⟩ = some (.slice ka ks.length kc) := by rw [cell_of_cells h1, ← hkv]; rfl
  have S2 : Hid _ := (fun (_ : Nat) => SO)
  clear SO
  have INFO : Hid _ := And.intro h1 (And.intro h2 (And.intro h3 (And.intro h4 (And.intro h6 (And.intro h7 (And.intro hkv hvv))))))
  rw [hkv] at S2
  clear h1 h2 h3 h4 h6 h7 hkv hvv hs hf
  go_enter Tryz.func83, Tryz.ntmps83
  go_wp2_with fail
  refine (S2.out 0).mono ?_
  rintro e w1 ⟨rfl, q, rfl⟩
  go_wp2_with fail
  obtain ⟨h1, h2, h3, h4, h6, h7, hkv, hvv⟩ := INFO.out
  have b1 : Below w.heap.size w (w.drewN q) := below_drewN (Below.refl _ _) q
  have INS := delete_own kv ks p (w.drewN q) (owns_below h2 b1) hp
  rw [hkv, show ((p + 1 : Nat) : Int) = (p : Int) + 1 from by omega] at INS
  refine INS.mono ?_
  rintro e w2 ⟨kv', rfl, o2, c2, b2⟩
  rw [← hkv] at c2 b2
  have C2 : Chg (fun g => kv.ownBlock = some g) w w2 := (Chg.of_below b1).trans c2 (fun _ _ e => e)
  have hkB : ¬ kv.ownBlock = some B := fun e => by
    obtain ⟨_, cur, hc⟩ := owns_lt h2 e
    rw [h1] at hc; simp at hc
  have hB2 := row_chg h1 C2 hkB
  obtain ⟨a2, q2, hv2⟩ := owns_val o2
  have d0 : w2.cell? ⟨B, 0, none⟩ = some (.slice ka ks.length kc) := by rw [cell_of_cells hB2, ← hkv]; rfl
  have d1 : w2.cell? ⟨B, 1, none⟩ = some (.slice va vs.length vc) := by rw [cell_of_cells hB2, ← hvv]; rfl
  have f0 : w2.frozen? ⟨B, 0, none⟩ = false := frozen_of_cells hB2
  have f1 : w2.frozen? ⟨B, 1, none⟩ = false := frozen_of_cells hB2
  have hvk : ∀ g, vv.ownBlock = some g → ¬ kv.ownBlock = some g := fun g hg hk => h4 g hk hg
  have O3 : w2.ownsRow 0 3 1 vv vs.length (vs.map (Value.int .i64)) := owns_chg h3 C2 hvk
  have hvB : vv.ownBlock ≠ some B := fun e => by
    obtain ⟨_, cur, hc⟩ := owns_lt h3 e
    rw [h1] at hc; simp at hc
  have I2 : Hid _ := And.intro hv2 (And.intro o2 (And.intro C2 (And.intro b2 (And.intro hB2 (And.intro O3 hvB)))))
  rw [hv2]
  clear hv2 o2 C2 b2 hB2 O3 hvB c2 INS b1 hkB hvk c0 h1 h2 h3 h4 h6 h7 hkv hvv
  generalize ks.length - 1 = m at *
  go_wp2_with fail
  obtain ⟨hv2, o2, C2, b2, hB2, O3, hvB⟩ := I2.out
  obtain ⟨h1, h2, h3, h4, h6, h7, hkv, hvv⟩ := INFO.out
  have cB : Chg (fun g => g = B) w2 (w2.setCell ⟨B, 0, none⟩ (.slice a2 m q2)) := Chg.setCell (F := fun g => g = B) (Chg.refl _ _) (fun _ => rfl) _
  have O4 : (w2.setCell ⟨B, 0, none⟩ (.slice a2 m q2)).ownsRow 0 3 1 vv vs.length (vs.map (Value.int .i64)) := owns_chg O3 cB (fun g hg e => hvB (e ▸ hg))
  have INS := delete_own vv vs p _ O4 (by rw [HL.out]; exact hp)
  rw [hvv, show ((p + 1 : Nat) : Int) = (p : Int) + 1 from by omega] at INS
  refine INS.mono ?_
  rintro e w4 ⟨vv', rfl, o4, c4, b4⟩
  rw [← hvv] at c4 b4
  have C4 : Chg (fun g => vv.ownBlock = some g) (w2.setCell ⟨B, 0, none⟩ kv') w4 := by rw [hv2]; exact c4
  have hB3 : (w2.setCell ⟨B, 0, none⟩ kv').heap[B]? = some (.cells #[kv', vv] 100 (0, 0)) := by
    rw [heap_setCell_same w2 B 0 _ 100 kv' hB2]; rfl
  have hB4 := row_chg hB3 C4 hvB
  obtain ⟨a4, q4, hv4⟩ := owns_val o4
  have e1 : w4.cell? ⟨B, 1, none⟩ = some (.slice va vs.length vc) := by rw [cell_of_cells hB4, ← hvv]; rfl
  have g1 : w4.frozen? ⟨B, 1, none⟩ = false := frozen_of_cells hB4
  have hlenk : (ks.take p ++ ks.drop (p + 1)).length = m := by have := o2.1; simp at this ⊢; omega
  have hlenv : (vs.take p ++ vs.drop (p + 1)).length = vs.length - 1 := by have := HL.out; simp; omega
  rw [← hlenk] at o2
  rw [← hlenv] at o4
  have FIN : Hid _ := And.intro hv4 (Srt.ins (F := F) h1 h3 h4 h5 h6 h7 o2 C2 (Or.inl b2) (Nat.le_refl _) hB2 o4 C4 (Or.inl b4) (Nat.le_refl _))
  rw [hv4]
  clear hv4 o4 C4 b4 hB4 hB3 c4 INS O4 cB h1 h2 h3 h4 h6 h7 hkv hvv hv2 o2 C2 b2 hB2 O3 hvB hlenk hlenv
  generalize vs.length - 1 = m' at *
  go_wp2
  obtain ⟨hv4, F', r1, r2, r3⟩ := FIN.out
  rw [hv4] at r1 r2
  go_end0
  exact ⟨rfl, F', r1, r2, r3⟩

end Go.Proofs.YtccdleafkhnfmaaGreat
