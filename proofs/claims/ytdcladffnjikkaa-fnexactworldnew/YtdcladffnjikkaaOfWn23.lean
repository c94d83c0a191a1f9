/-
  The model's NodeNew.
-/
import Derived.Test.YtdcladffnjikkaaOfWn20
import Derived.Test.YtdcladffnjikkaaOfWn22
import Derived.Test.YtdcladffnjikkaaOfWn16
namespace Go.Proofs.Ytdcladffnjikkaa
set_option maxRecDepth 100000
set_option maxHeartbeats 8000000
section
open Go.RowKit

theorem run_mnS (args : Array Value) (w : World) : (callFunc 28 args).run Try.prog w = .ok (.enter 28 args) w := by go_simp
theorem run_onS (args : Array Value) (w : World) : (callFunc 29 args).run Try.prog w = .ok (.enter 29 args) w := by go_simp
theorem nodeOk_new (id : Int) (k : Nat) (h1 : 1 ≤ k) (h2 : k ≤ 5) (lv vv nv mv : Value) (s o : MacV) : nodeOkB ⟨id, 0, -1, 0, 0, lv, s, 0, vv, nv, mv, 0, o⟩ (newD true k) (k : Int) = inB id 0 ((k : Int) - 1) := by
 have e1 : logOkB 0 0 [] = true := by decide
 have e2 : machOk nwT [] = true := by decide
 have e3 : prevT 0 ([] : EL) 0 = 0 := rfl
 have e4 : lastN 0 ([] : EL) = 0 := rfl
 have hk : k = 1 ∨ k = 2 ∨ k = 3 ∨ k = 4 ∨ k = 5 := by omega
 show nodeP id 0 (-1) 0 0 0 (k : Int) (logOkB 0 0 []) (machOk nwT []) (machOk nwT []) (prevT 0 ([] : EL) 0) (lastN 0 ([] : EL)) (List.replicate k false).length (List.replicate k (1 : Int)).length (List.replicate k (0 : Int)).length (allIn (List.replicate k 1) 1 (lastN 0 ([] : EL) + 1)) (allIn (List.replicate k 0) 0 (lastN 0 ([] : EL))) = _
 rw [e1, e2, e3, e4]
 rcases hk with rfl | rfl | rfl | rfl | rfl <;> simp [nodeP, inB, allIn, iAt, List.range, List.range.loop, List.replicate, List.getD]
def cnt6 (a b c d e f : Bool) : Nat := cnt5 a b c d e + (if f then 0 else 1)
theorem rec6 {P : Program} {md : Region.Mode} {ops : Array Oper} {Q : Exit → Act → World → Prop} {S : World → Prop}
  (Inv : Bool → Bool → Bool → Bool → Bool → Bool → Option Addr × Nat × Nat → Nat → Nat → Nat → World → Prop) (lst : Bool → Bool → Bool → Bool → Bool → Bool → Array Bool) (act : Bool → Bool → Bool → Bool → Bool → Bool → Option Addr × Nat × Nat → Nat → Nat → Nat → Act) (lstF : Array Bool) (actF : Option Addr × Nat × Nat → Nat → Nat → Nat → Act)
  (fin : ∀ x y z b W, Inv true true true true true true x y z b W → wpAnyH P md ops Q S 1 lstF (actF x y z b) W)
  (base : (∀ x y z b W, Inv true true true true true true x y z b W → wpAnyH P md ops Q S 1 lstF (actF x y z b) W) → ∀ x y z b W, Inv true true true true true true x y z b W → wpAnyH P md ops Q S 2 (lst true true true true true true) (act true true true true true true x y z b) W)
  (step : (∀ x y z b W, Inv true true true true true true x y z b W → wpAnyH P md ops Q S 1 lstF (actF x y z b) W) → ∀ N, (∀ b1 b2 b3 b4 b5 b6 x y z b W, cnt6 b1 b2 b3 b4 b5 b6 = N → Inv b1 b2 b3 b4 b5 b6 x y z b W → wpAnyH P md ops Q S (N + 2) (lst b1 b2 b3 b4 b5 b6) (act b1 b2 b3 b4 b5 b6 x y z b) W) →
   ∀ b1 b2 b3 b4 b5 b6 x y z b W, cnt6 b1 b2 b3 b4 b5 b6 = N + 1 → Inv b1 b2 b3 b4 b5 b6 x y z b W → wpAnyH P md ops Q S (N + 1 + 2) (lst b1 b2 b3 b4 b5 b6) (act b1 b2 b3 b4 b5 b6 x y z b) W) :
  ∀ b1 b2 b3 b4 b5 b6 x y z b W, Inv b1 b2 b3 b4 b5 b6 x y z b W → wpAnyH P md ops Q S (cnt6 b1 b2 b3 b4 b5 b6 + 2) (lst b1 b2 b3 b4 b5 b6) (act b1 b2 b3 b4 b5 b6 x y z b) W := by
 have all : ∀ N b1 b2 b3 b4 b5 b6 x y z b W, cnt6 b1 b2 b3 b4 b5 b6 = N → Inv b1 b2 b3 b4 b5 b6 x y z b W → wpAnyH P md ops Q S (N + 2) (lst b1 b2 b3 b4 b5 b6) (act b1 b2 b3 b4 b5 b6 x y z b) W := by
  intro N
  induction N with
  | zero =>
   intro b1 b2 b3 b4 b5 b6 x y z b W h0 hI
   cases b1 <;> cases b2 <;> cases b3 <;> cases b4 <;> cases b5 <;> cases b6 <;> first | exact base fin x y z b W hI | (simp [cnt6, cnt5] at h0)
  | succ N ih => exact step fin N ih
 intro b1 b2 b3 b4 b5 b6 x y z b W hI
 exact all _ b1 b2 b3 b4 b5 b6 x y z b W rfl hI
def NS (w : World) (k : Nat) (b1 b2 b6 b4 b8 b10 : Bool) (x : Option Addr × Nat × Nat) (gV gM gB : Nat) (W : World) : Prop :=
 Below w.heap.size w W ∧ w.heap.size + 1 ≤ W.heap.size ∧ W.heap[w.heap.size]? = some (.cells #[.int .i64 0, .int .i64 0, .int .i64 0, .int .i64 0, .int .i64 0, .slice none 0 0, .bool false, .slice none 0 0, .slice none 0 0, .slice none 0 0, .slice none 0 0, .slice none 0 0, .int .i64 0, .slice none 0 0, .slice none 0 0, .slice none 0 0, .int .i64 0, .bool false, .slice none 0 0, .slice none 0 0, .slice none 0 0, .slice none 0 0, .slice none 0 0] 48 (0, 0)) ∧
 (b4 = true → w.heap.size < gV ∧ gV < W.heap.size ∧ OwnI W gV (gV + 1) 4 1 (.slice (some ⟨gV, 0, none⟩) k k) k (List.replicate k (.bool false))) ∧ (b8 = true → w.heap.size < gM ∧ gM < W.heap.size ∧ OwnI W gM (gM + 1) 3 1 (.slice (some ⟨gM, 0, none⟩) k k) k (List.replicate k (.int .i64 0))) ∧ (b6 = true → OwnE W (w.heap.size + 1) 3 1 (.slice x.1 x.2.1 x.2.2) k (flatI (List.replicate k 1))) ∧
 (b10 = true → w.heap.size < gB ∧ gB < W.heap.size ∧ W.heap[gB]? = some (.cells #[.int .i64 0, .int .i64 0, .int .i64 0, .int .i64 0, .int .i64 0, .slice none 0 0, .bool false, .slice none 0 0, .slice none 0 0, .slice none 0 0, .slice none 0 0, .slice none 0 0, .int .i64 0, .slice none 0 0, .slice none 0 0, .slice none 0 0, .int .i64 0, .bool false, .slice none 0 0, .slice none 0 0, .slice none 0 0, .slice none 0 0, .slice none 0 0] 48 (0, 0))) ∧
 (b4 = true → b10 = true → gV ≠ gB) ∧ (b8 = true → b10 = true → gM ≠ gB) ∧ (b2 = true → b1 = true) ∧ (b6 = true → b2 = true)
theorem NS.step {w : World} {k : Nat} {b1 b2 b6 b4 b8 b10 : Bool} {x : Option Addr × Nat × Nat} {gV gM gB : Nat} {W W' : World} (h : NS w k b1 b2 b6 b4 b8 b10 x gV gM gB W) (hb : Below W.heap.size W W') : NS w k b1 b2 b6 b4 b8 b10 x gV gM gB W' := by
 obtain ⟨h1, h2, h3, h4, h5, h6, h7, q⟩ := h
 exact ⟨Below.and h1 hb, Nat.le_trans h2 hb.size, step_at h3 hb, fun e => ⟨(h4 e).1, Nat.lt_of_lt_of_le (h4 e).2.1 hb.size, (h4 e).2.2.below hb⟩, fun e => ⟨(h5 e).1, Nat.lt_of_lt_of_le (h5 e).2.1 hb.size, (h5 e).2.2.below hb⟩, fun e => (h6 e).below hb, fun e => ⟨(h7 e).1, Nat.lt_of_lt_of_le (h7 e).2.1 hb.size, step_at (h7 e).2.2 hb⟩, q⟩
theorem NS.one {w : World} {k : Nat} {b2 b6 b4 b8 b10 : Bool} {x : Option Addr × Nat × Nat} {gV gM gB : Nat} {W W' : World} (h : NS w k false b2 b6 b4 b8 b10 x gV gM gB W) (hb : Below W.heap.size W W') : NS w k true b2 b6 b4 b8 b10 x gV gM gB W' := by
 obtain ⟨h1, h2, h3, h4, h5, h6, h7, q1, q2, q3, q4⟩ := h.step hb
 exact ⟨h1, h2, h3, h4, h5, h6, h7, q1, q2, fun _ => rfl, q4⟩
theorem NS.two {w : World} {k : Nat} {b6 b4 b8 b10 : Bool} {x : Option Addr × Nat × Nat} {gV gM gB : Nat} {W W' : World} (h : NS w k true false b6 b4 b8 b10 x gV gM gB W) (hb : Below W.heap.size W W') : NS w k true true b6 b4 b8 b10 x gV gM gB W' := by
 obtain ⟨h1, h2, h3, h4, h5, h6, h7, q1, q2, q3, q4⟩ := h.step hb
 exact ⟨h1, h2, h3, h4, h5, h6, h7, q1, q2, fun _ => rfl, fun _ => rfl⟩
theorem NS.ons {w : World} {k : Nat} {b4 b8 b10 : Bool} {x y : Option Addr × Nat × Nat} {gV gM gB : Nat} {W W' : World} (h : NS w k true true false b4 b8 b10 x gV gM gB W) (hb : Below W.heap.size W W') (ho : OwnE W' W.heap.size 3 1 (.slice y.1 y.2.1 y.2.2) k (flatI (List.replicate k 1))) : NS w k true true true b4 b8 b10 y gV gM gB W' := by
 have hz := h.2.1
 obtain ⟨h1, h2, h3, h4, h5, h6, h7, q1, q2, q3, q4⟩ := h.step hb
 exact ⟨h1, h2, h3, h4, h5, fun _ => ho.mono hz, h7, q1, q2, fun _ => rfl, fun _ => rfl⟩
theorem NS.vot {w : World} {k : Nat} {b1 b2 b6 b8 b10 : Bool} {x : Option Addr × Nat × Nat} {gV gM gB : Nat} {W W' : World} (h : NS w k b1 b2 b6 false b8 b10 x gV gM gB W) (hb : Below W.heap.size W W') (hl : W.heap.size < W'.heap.size) (ho : OwnI W' W.heap.size (W.heap.size + 1) 4 1 (.slice (some ⟨W.heap.size, 0, none⟩) k k) k (List.replicate k (.bool false))) : NS w k b1 b2 b6 true b8 b10 x W.heap.size gM gB W' := by
 obtain ⟨h1, h2, h3, h4, h5, h6, h7, q1, q2, q3, q4⟩ := h.step hb
 obtain ⟨k1, k2, k3, k4, k5, k6, k7, -⟩ := h
 exact ⟨h1, h2, h3, fun _ => ⟨by omega, hl, ho⟩, h5, h6, h7, fun _ e => by have := (k7 e).2.1; omega, q2, q3, q4⟩
theorem NS.mat {w : World} {k : Nat} {b1 b2 b6 b4 b10 : Bool} {x : Option Addr × Nat × Nat} {gV gM gB : Nat} {W W' : World} (h : NS w k b1 b2 b6 b4 false b10 x gV gM gB W) (hb : Below W.heap.size W W') (hl : W.heap.size < W'.heap.size) (ho : OwnI W' W.heap.size (W.heap.size + 1) 3 1 (.slice (some ⟨W.heap.size, 0, none⟩) k k) k (List.replicate k (.int .i64 0))) : NS w k b1 b2 b6 b4 true b10 x gV W.heap.size gB W' := by
 obtain ⟨h1, h2, h3, h4, h5, h6, h7, q1, q2, q3, q4⟩ := h.step hb
 obtain ⟨k1, k2, k3, k4, k5, k6, k7, -⟩ := h
 exact ⟨h1, h2, h3, h4, fun _ => ⟨by omega, hl, ho⟩, h6, h7, q1, fun _ e => by have := (k7 e).2.1; omega, q3, q4⟩
theorem NS.var {w : World} {k : Nat} {b1 b2 b6 b4 b8 : Bool} {x : Option Addr × Nat × Nat} {gV gM gB : Nat} {W : World} (h : NS w k b1 b2 b6 b4 b8 false x gV gM gB W) : NS w k b1 b2 b6 b4 b8 true x gV gM W.heap.size (W.alloc (.cells #[.int .i64 0, .int .i64 0, .int .i64 0, .int .i64 0, .int .i64 0, .slice none 0 0, .bool false, .slice none 0 0, .slice none 0 0, .slice none 0 0, .slice none 0 0, .slice none 0 0, .int .i64 0, .slice none 0 0, .slice none 0 0, .slice none 0 0, .int .i64 0, .bool false, .slice none 0 0, .slice none 0 0, .slice none 0 0, .slice none 0 0, .slice none 0 0] 48)) := by
 have hb : Below W.heap.size W (W.alloc (.cells #[.int .i64 0, .int .i64 0, .int .i64 0, .int .i64 0, .int .i64 0, .slice none 0 0, .bool false, .slice none 0 0, .slice none 0 0, .slice none 0 0, .slice none 0 0, .slice none 0 0, .int .i64 0, .slice none 0 0, .slice none 0 0, .slice none 0 0, .int .i64 0, .bool false, .slice none 0 0, .slice none 0 0, .slice none 0 0, .slice none 0 0, .slice none 0 0] 48)) := bel_nw _ _
 obtain ⟨h1, h2, h3, h4, h5, h6, h7, q1, q2, q3, q4⟩ := h.step hb
 obtain ⟨k1, k2, k3, k4, k5, k6, k7, -⟩ := h
 exact ⟨h1, h2, h3, h4, h5, h6, fun _ => ⟨by omega, by simp, heap_alloc_new W _⟩, fun e _ => by have := (k4 e).2.1; omega, fun e _ => by have := (k5 e).2.1; omega, q3, q4⟩

theorem specNodeNew_in (id : Int) (k : Nat) (w : World) (h1 : inB (k : Int) 1 5 = true) :
  Calls Try.prog 10 #[.int .i64 id, .int .i64 (k : Int)] w fun e w' => ∃ K : NodV, e = .returned (.tuple #[K.val, .bool (nnB id k)]) ∧ (newV (nnB id k) id).like K ∧ NodF 1 w' (fun g => w.heap.size ≤ g) K (newD (nnB id k) k) ∧ Below w.heap.size w w' := by
 have hk := inB_iff.1 h1
 have HK : Hid (1 ≤ k ∧ k ≤ 5) := ⟨by omega, by omega⟩
 have H1 := hid9 h1
 clear hk
 have B1 : Hid (Below w.heap.size w (w.alloc (.cells #[.int .i64 0, .int .i64 0, .int .i64 0, .int .i64 0, .int .i64 0, .slice none 0 0, .bool false, .slice none 0 0, .slice none 0 0, .slice none 0 0, .slice none 0 0, .slice none 0 0, .int .i64 0, .slice none 0 0, .slice none 0 0, .slice none 0 0, .int .i64 0, .bool false, .slice none 0 0, .slice none 0 0, .slice none 0 0, .slice none 0 0, .slice none 0 0] 48))) := bel_nw _ _
 have zW : Hid (w.heap.size + 1 ≤ (w.alloc (.cells #[.int .i64 0, .int .i64 0, .int .i64 0, .int .i64 0, .int .i64 0, .slice none 0 0, .bool false, .slice none 0 0, .slice none 0 0, .slice none 0 0, .slice none 0 0, .slice none 0 0, .int .i64 0, .slice none 0 0, .slice none 0 0, .slice none 0 0, .int .i64 0, .bool false, .slice none 0 0, .slice none 0 0, .slice none 0 0, .slice none 0 0, .slice none 0 0] 48)).heap.size) := by show _ ≤ _; simp
 have Y1 : Hid ((w.alloc (.cells #[.int .i64 0, .int .i64 0, .int .i64 0, .int .i64 0, .int .i64 0, .slice none 0 0, .bool false, .slice none 0 0, .slice none 0 0, .slice none 0 0, .slice none 0 0, .slice none 0 0, .int .i64 0, .slice none 0 0, .slice none 0 0, .slice none 0 0, .int .i64 0, .bool false, .slice none 0 0, .slice none 0 0, .slice none 0 0, .slice none 0 0, .slice none 0 0] 48)).heap[w.heap.size]? = some (.cells #[.int .i64 0, .int .i64 0, .int .i64 0, .int .i64 0, .int .i64 0, .slice none 0 0, .bool false, .slice none 0 0, .slice none 0 0, .slice none 0 0, .slice none 0 0, .slice none 0 0, .int .i64 0, .slice none 0 0, .slice none 0 0, .slice none 0 0, .int .i64 0, .bool false, .slice none 0 0, .slice none 0 0, .slice none 0 0, .slice none 0 0, .slice none 0 0] 48 (0, 0))) := heap_alloc_new w _
 go_enter Try.func10, Try.ntmps10
 go_wp2_with fail
 refine (l1In_any _ _ _ _).mono ?_
 rintro e w1 ⟨rfl, hw1⟩
 subst hw1
 rw [h1]
 go_upto_region 3 with fail
 clear h1
 generalize (w.alloc (.cells #[.int .i64 0, .int .i64 0, .int .i64 0, .int .i64 0, .int .i64 0, .slice none 0 0, .bool false, .slice none 0 0, .slice none 0 0, .slice none 0 0, .slice none 0 0, .slice none 0 0, .int .i64 0, .slice none 0 0, .slice none 0 0, .slice none 0 0, .int .i64 0, .bool false, .slice none 0 0, .slice none 0 0, .slice none 0 0, .slice none 0 0, .slice none 0 0] 48)) = W at *
 refine wp_region_held_drew (S := fun _ => True) (by kernel_rfl) trivial (fun hH => ?_)
 refine wpAnyH_take (i := 0) (oi := ⟨_, _, _, _, _, _⟩) (v := ?_) rfl (by kernel_rfl) (by kernel_rfl) (by kernel_rfl) (fun _ _ _ h => h) (Or.inl ⟨by rfl, ?_⟩) (by assumption) ?_
 rotate_left
 ·((intro w hSw; (try dsimp only at hSw); go_simp); (try with_reducible rfl))
 try simp only [Act.put, List.setIfInBounds_toArray, List.set_cons_zero, List.set_cons_succ]
 refine wpAnyH_take (i := 3) (oi := ⟨_, _, _, _, _, _⟩) (v := ?_) rfl (by kernel_rfl) (by kernel_rfl) (by kernel_rfl) (fun _ _ _ h => h) (Or.inl ⟨by rfl, ?_⟩) (by assumption) ?_
 rotate_left
 ·((intro w hSw; (try dsimp only at hSw); go_simp); (try with_reducible rfl))
 try simp only [Act.put, List.setIfInBounds_toArray, List.set_cons_zero, List.set_cons_succ]
 refine wpAnyH_take (i := 5) (oi := ⟨_, _, _, _, _, _⟩) (v := ?_) rfl (by kernel_rfl) (by kernel_rfl) (by kernel_rfl) (fun _ _ _ h => h) (Or.inl ⟨by rfl, ?_⟩) (by assumption) ?_
 rotate_left
 ·((intro w hSw; (try dsimp only at hSw); go_simp); (try with_reducible rfl))
 try simp only [Act.put, List.setIfInBounds_toArray, List.set_cons_zero, List.set_cons_succ]
 refine wpAnyH_take (i := 7) (oi := ⟨_, _, _, _, _, _⟩) (v := ?_) rfl (by kernel_rfl) (by kernel_rfl) (by kernel_rfl) (fun _ _ _ h => h) (Or.inl ⟨by rfl, ?_⟩) (by assumption) ?_
 rotate_left
 ·((intro w hSw; (try dsimp only at hSw); go_simp); (try with_reducible rfl))
 try simp only [Act.put, List.setIfInBounds_toArray, List.set_cons_zero, List.set_cons_succ]
 refine rec6 (Inv := fun b1 b2 b6 b4 b8 b10 x gV gM gB W => NS w k b1 b2 b6 b4 b8 b10 x gV gM gB W) (lst := fun b1 b2 b6 b4 b8 b10 => #[true, b1, b2, true, b4, true, b6, true, b8, false, b10, false]) (act := fun b1 b2 b6 b4 b8 b10 x gV gM gB => (⟨#[.int .i64 id, .int .i64 (k : Int), undef, undef, .pointer (some ⟨w.heap.size, 0, none⟩), .bool false, (bif b10 then .pointer (some ⟨gB, 0, none⟩) else undef), .int .i64 (k : Int), .bool true, .bool false, undef, .int .i64 id, (bif b1 then emptyM else undef), (bif b2 then emptyM else undef), .int .i64 (k : Int), (bif b4 then .slice (some ⟨gV, 0, none⟩) k k else undef), .int .i64 (k : Int), (bif b6 then .slice x.1 x.2.1 x.2.2 else undef), .int .i64 (k : Int), (bif b8 then .slice (some ⟨gM, 0, none⟩) k k else undef), undef, undef, undef, undef, undef, undef, undef], []⟩ : Act)) (lstF := #[true, true, true, true, true, true, true, true, true, true, true, false]) (actF := fun x gV gM gB => (⟨#[.int .i64 id, .int .i64 (k : Int), undef, undef, .pointer (some ⟨w.heap.size, 0, none⟩), .bool false, .pointer (some ⟨gB, 0, none⟩), .int .i64 (k : Int), .bool true, .bool false, undef, .int .i64 id, emptyM, emptyM, .int .i64 (k : Int), .slice (some ⟨gV, 0, none⟩) k k, .int .i64 (k : Int), .slice x.1 x.2.1 x.2.2, .int .i64 (k : Int), .slice (some ⟨gM, 0, none⟩) k k, .agg #[.int .i64 id, .int .i64 0, .int .i64 (-1), .int .i64 0, .int .i64 0, .slice none 0 0, .bool true, .slice none 0 0, .slice none 0 0, .slice none 0 0, .slice none 0 0, .slice none 0 0, .int .i64 0, .slice (some ⟨gV, 0, none⟩) k k, .slice x.1 x.2.1 x.2.2, .slice (some ⟨gM, 0, none⟩) k k, .int .i64 0, .bool true, .slice none 0 0, .slice none 0 0, .slice none 0 0, .slice none 0 0, .slice none 0 0], undef, undef, undef, undef, undef, undef], []⟩ : Act)) ?fin ?base ?step false false false false false false (none, 0, 0) 0 0 0 _ ?inv
 case inv => exact ⟨(Below.and B1.out (Below.refl _ _).drew), zW.out, Y1.out, fun e => (by cases e), fun e => (by cases e), fun e => (by cases e), fun e => (by cases e), fun e => (by cases e), fun e => (by cases e), fun e => (by cases e), fun e => (by cases e)⟩
 case base =>
  intro fin x gV gM gB W hI
  simp only [cond_true]
  refine wpAnyH_take (i := 9) (oi := ⟨_, _, _, _, _, _⟩) (v := ?_) rfl (by kernel_rfl) (by kernel_rfl) (by kernel_rfl) (fun _ _ _ h => h) (Or.inl ⟨by rfl, ?_⟩) (by assumption) ?_
  rotate_left
  ·((intro w hSw; (try dsimp only at hSw); go_simp); (try with_reducible rfl))
  try simp only [Act.put, List.setIfInBounds_toArray, List.set_cons_zero, List.set_cons_succ]
  exact fin x gV gM gB W hI
 case step =>
  intro fin N ih b1 b2 b6 b4 b8 b10 x gV gM gB W hN hI
  cases b1 <;> cases b2 <;> cases b6 <;> cases b4 <;> cases b8 <;> cases b10
  ·have hN2 : N = 5 := by unfold cnt6 cnt5 at hN; simp at hN; omega
   subst hN2
   simp only [cond_false]
   refine wpAnyH_ready (rs := [1, 4, 8, 10]) (by kernel_rfl) (by simp) ?_
   refine AllReadyH.cons (o := ⟨_, _, _, _, _, _⟩) rfl (fun K hK => ?_) (AllReadyH.cons (o := ⟨_, _, _, _, _, _⟩) rfl (fun K hK => ?_) (AllReadyH.cons (o := ⟨_, _, _, _, _, _⟩) rfl (fun K hK => ?_) (AllReadyH.cons (o := ⟨_, _, _, _, _, _⟩) rfl (fun K hK => ?_) AllReadyH.nil)))
   ·refine (if_pos (show Region.wanted _ _ = true by kernel_rfl)).mpr ?_
    refine call_by 28 [] #[] rfl run_mnS _ rfl (specMachineNew0 _) ?_
    rintro e u ⟨rfl, hb⟩
    refine ⟨_, rfl, ?_⟩
    refine hK.out _ _ trivial (fun _ => ?_)
    try simp only [Act.put, List.setIfInBounds_toArray, List.set_cons_zero, List.set_cons_succ]
    exact ih true false false false false false x gV gM gB u rfl (hI.one hb)
   ·refine (if_pos (show Region.wanted _ _ = true by kernel_rfl)).mpr ?_
    refine wp_mkV _ _ k rfl rfl rfl HK.out.1 HK.out.2 (fun u hb hl ho => ?_)
    refine hK.out _ _ trivial (fun _ => ?_)
    try simp only [Act.put, List.setIfInBounds_toArray, List.set_cons_zero, List.set_cons_succ]
    exact ih false false false true false false x _ gM gB u rfl (hI.vot hb hl ho)
   ·refine (if_pos (show Region.wanted _ _ = true by kernel_rfl)).mpr ?_
    refine wp_mkI _ _ k rfl rfl rfl HK.out.1 HK.out.2 (fun u hb hl ho => ?_)
    refine hK.out _ _ trivial (fun _ => ?_)
    try simp only [Act.put, List.setIfInBounds_toArray, List.set_cons_zero, List.set_cons_succ]
    exact ih false false false false true false x gV _ gB u rfl (hI.mat hb hl ho)
   ·refine (if_pos (show Region.wanted _ _ = true by kernel_rfl)).mpr ?_
    refine wp_newN rfl ?_
    refine hK.out _ _ trivial (fun _ => ?_)
    try simp only [Act.put, List.setIfInBounds_toArray, List.set_cons_zero, List.set_cons_succ]
    exact ih false false false false false true x gV gM _ _ rfl (hI.var)
  ·have hN2 : N = 4 := by unfold cnt6 cnt5 at hN; simp at hN; omega
   subst hN2
   simp only [cond_true, cond_false]
   refine wpAnyH_ready (rs := [1, 4, 8]) (by kernel_rfl) (by simp) ?_
   refine AllReadyH.cons (o := ⟨_, _, _, _, _, _⟩) rfl (fun K hK => ?_) (AllReadyH.cons (o := ⟨_, _, _, _, _, _⟩) rfl (fun K hK => ?_) (AllReadyH.cons (o := ⟨_, _, _, _, _, _⟩) rfl (fun K hK => ?_) AllReadyH.nil))
   ·refine (if_pos (show Region.wanted _ _ = true by kernel_rfl)).mpr ?_
    refine call_by 28 [] #[] rfl run_mnS _ rfl (specMachineNew0 _) ?_
    rintro e u ⟨rfl, hb⟩
    refine ⟨_, rfl, ?_⟩
    refine hK.out _ _ trivial (fun _ => ?_)
    try simp only [Act.put, List.setIfInBounds_toArray, List.set_cons_zero, List.set_cons_succ]
    exact ih true false false false false true x gV gM gB u rfl (hI.one hb)
   ·refine (if_pos (show Region.wanted _ _ = true by kernel_rfl)).mpr ?_
    refine wp_mkV _ _ k rfl rfl rfl HK.out.1 HK.out.2 (fun u hb hl ho => ?_)
    refine hK.out _ _ trivial (fun _ => ?_)
    try simp only [Act.put, List.setIfInBounds_toArray, List.set_cons_zero, List.set_cons_succ]
    exact ih false false false true false true x _ gM gB u rfl (hI.vot hb hl ho)
   ·refine (if_pos (show Region.wanted _ _ = true by kernel_rfl)).mpr ?_
    refine wp_mkI _ _ k rfl rfl rfl HK.out.1 HK.out.2 (fun u hb hl ho => ?_)
    refine hK.out _ _ trivial (fun _ => ?_)
    try simp only [Act.put, List.setIfInBounds_toArray, List.set_cons_zero, List.set_cons_succ]
    exact ih false false false false true true x gV _ gB u rfl (hI.mat hb hl ho)
  ·have hN2 : N = 4 := by unfold cnt6 cnt5 at hN; simp at hN; omega
   subst hN2
   simp only [cond_true, cond_false]
   refine wpAnyH_ready (rs := [1, 4, 10]) (by kernel_rfl) (by simp) ?_
   refine AllReadyH.cons (o := ⟨_, _, _, _, _, _⟩) rfl (fun K hK => ?_) (AllReadyH.cons (o := ⟨_, _, _, _, _, _⟩) rfl (fun K hK => ?_) (AllReadyH.cons (o := ⟨_, _, _, _, _, _⟩) rfl (fun K hK => ?_) AllReadyH.nil))
   ·refine (if_pos (show Region.wanted _ _ = true by kernel_rfl)).mpr ?_
    refine call_by 28 [] #[] rfl run_mnS _ rfl (specMachineNew0 _) ?_
    rintro e u ⟨rfl, hb⟩
    refine ⟨_, rfl, ?_⟩
    refine hK.out _ _ trivial (fun _ => ?_)
    try simp only [Act.put, List.setIfInBounds_toArray, List.set_cons_zero, List.set_cons_succ]
    exact ih true false false false true false x gV gM gB u rfl (hI.one hb)
   ·refine (if_pos (show Region.wanted _ _ = true by kernel_rfl)).mpr ?_
    refine wp_mkV _ _ k rfl rfl rfl HK.out.1 HK.out.2 (fun u hb hl ho => ?_)
    refine hK.out _ _ trivial (fun _ => ?_)
    try simp only [Act.put, List.setIfInBounds_toArray, List.set_cons_zero, List.set_cons_succ]
    exact ih false false false true true false x _ gM gB u rfl (hI.vot hb hl ho)
   ·refine (if_pos (show Region.wanted _ _ = true by kernel_rfl)).mpr ?_
    refine wp_newN rfl ?_
    refine hK.out _ _ trivial (fun _ => ?_)
    try simp only [Act.put, List.setIfInBounds_toArray, List.set_cons_zero, List.set_cons_succ]
    exact ih false false false false true true x gV gM _ _ rfl (hI.var)
  ·have hN2 : N = 3 := by unfold cnt6 cnt5 at hN; simp at hN; omega
   subst hN2
   simp only [cond_true, cond_false]
   refine wpAnyH_ready (rs := [1, 4]) (by kernel_rfl) (by simp) ?_
   refine AllReadyH.cons (o := ⟨_, _, _, _, _, _⟩) rfl (fun K hK => ?_) (AllReadyH.cons (o := ⟨_, _, _, _, _, _⟩) rfl (fun K hK => ?_) AllReadyH.nil)
   ·refine (if_pos (show Region.wanted _ _ = true by kernel_rfl)).mpr ?_
    refine call_by 28 [] #[] rfl run_mnS _ rfl (specMachineNew0 _) ?_
    rintro e u ⟨rfl, hb⟩
    refine ⟨_, rfl, ?_⟩
    refine hK.out _ _ trivial (fun _ => ?_)
    try simp only [Act.put, List.setIfInBounds_toArray, List.set_cons_zero, List.set_cons_succ]
    exact ih true false false false true true x gV gM gB u rfl (hI.one hb)
   ·refine (if_pos (show Region.wanted _ _ = true by kernel_rfl)).mpr ?_
    refine wp_mkV _ _ k rfl rfl rfl HK.out.1 HK.out.2 (fun u hb hl ho => ?_)
    refine hK.out _ _ trivial (fun _ => ?_)
    try simp only [Act.put, List.setIfInBounds_toArray, List.set_cons_zero, List.set_cons_succ]
    exact ih false false false true true true x _ gM gB u rfl (hI.vot hb hl ho)
  ·have hN2 : N = 4 := by unfold cnt6 cnt5 at hN; simp at hN; omega
   subst hN2
   simp only [cond_true, cond_false]
   refine wpAnyH_ready (rs := [1, 8, 10]) (by kernel_rfl) (by simp) ?_
   refine AllReadyH.cons (o := ⟨_, _, _, _, _, _⟩) rfl (fun K hK => ?_) (AllReadyH.cons (o := ⟨_, _, _, _, _, _⟩) rfl (fun K hK => ?_) (AllReadyH.cons (o := ⟨_, _, _, _, _, _⟩) rfl (fun K hK => ?_) AllReadyH.nil))
   ·refine (if_pos (show Region.wanted _ _ = true by kernel_rfl)).mpr ?_
    refine call_by 28 [] #[] rfl run_mnS _ rfl (specMachineNew0 _) ?_
    rintro e u ⟨rfl, hb⟩
    refine ⟨_, rfl, ?_⟩
    refine hK.out _ _ trivial (fun _ => ?_)
    try simp only [Act.put, List.setIfInBounds_toArray, List.set_cons_zero, List.set_cons_succ]
    exact ih true false false true false false x gV gM gB u rfl (hI.one hb)
   ·refine (if_pos (show Region.wanted _ _ = true by kernel_rfl)).mpr ?_
    refine wp_mkI _ _ k rfl rfl rfl HK.out.1 HK.out.2 (fun u hb hl ho => ?_)
    refine hK.out _ _ trivial (fun _ => ?_)
    try simp only [Act.put, List.setIfInBounds_toArray, List.set_cons_zero, List.set_cons_succ]
    exact ih false false false true true false x gV _ gB u rfl (hI.mat hb hl ho)
   ·refine (if_pos (show Region.wanted _ _ = true by kernel_rfl)).mpr ?_
    refine wp_newN rfl ?_
    refine hK.out _ _ trivial (fun _ => ?_)
    try simp only [Act.put, List.setIfInBounds_toArray, List.set_cons_zero, List.set_cons_succ]
    exact ih false false false true false true x gV gM _ _ rfl (hI.var)
  ·have hN2 : N = 3 := by unfold cnt6 cnt5 at hN; simp at hN; omega
   subst hN2
   simp only [cond_true, cond_false]
   refine wpAnyH_ready (rs := [1, 8]) (by kernel_rfl) (by simp) ?_
   refine AllReadyH.cons (o := ⟨_, _, _, _, _, _⟩) rfl (fun K hK => ?_) (AllReadyH.cons (o := ⟨_, _, _, _, _, _⟩) rfl (fun K hK => ?_) AllReadyH.nil)
   ·refine (if_pos (show Region.wanted _ _ = true by kernel_rfl)).mpr ?_
    refine call_by 28 [] #[] rfl run_mnS _ rfl (specMachineNew0 _) ?_
    rintro e u ⟨rfl, hb⟩
    refine ⟨_, rfl, ?_⟩
    refine hK.out _ _ trivial (fun _ => ?_)
    try simp only [Act.put, List.setIfInBounds_toArray, List.set_cons_zero, List.set_cons_succ]
    exact ih true false false true false true x gV gM gB u rfl (hI.one hb)
   ·refine (if_pos (show Region.wanted _ _ = true by kernel_rfl)).mpr ?_
    refine wp_mkI _ _ k rfl rfl rfl HK.out.1 HK.out.2 (fun u hb hl ho => ?_)
    refine hK.out _ _ trivial (fun _ => ?_)
    try simp only [Act.put, List.setIfInBounds_toArray, List.set_cons_zero, List.set_cons_succ]
    exact ih false false false true true true x gV _ gB u rfl (hI.mat hb hl ho)
  ·have hN2 : N = 3 := by unfold cnt6 cnt5 at hN; simp at hN; omega
   subst hN2
   simp only [cond_true, cond_false]
   refine wpAnyH_ready (rs := [1, 10]) (by kernel_rfl) (by simp) ?_
   refine AllReadyH.cons (o := ⟨_, _, _, _, _, _⟩) rfl (fun K hK => ?_) (AllReadyH.cons (o := ⟨_, _, _, _, _, _⟩) rfl (fun K hK => ?_) AllReadyH.nil)
   ·refine (if_pos (show Region.wanted _ _ = true by kernel_rfl)).mpr ?_
    refine call_by 28 [] #[] rfl run_mnS _ rfl (specMachineNew0 _) ?_
    rintro e u ⟨rfl, hb⟩
    refine ⟨_, rfl, ?_⟩
    refine hK.out _ _ trivial (fun _ => ?_)
    try simp only [Act.put, List.setIfInBounds_toArray, List.set_cons_zero, List.set_cons_succ]
    exact ih true false false true true false x gV gM gB u rfl (hI.one hb)
   ·refine (if_pos (show Region.wanted _ _ = true by kernel_rfl)).mpr ?_
    refine wp_newN rfl ?_
    refine hK.out _ _ trivial (fun _ => ?_)
    try simp only [Act.put, List.setIfInBounds_toArray, List.set_cons_zero, List.set_cons_succ]
    exact ih false false false true true true x gV gM _ _ rfl (hI.var)
  ·have hN2 : N = 2 := by unfold cnt6 cnt5 at hN; simp at hN; omega
   subst hN2
   simp only [cond_true, cond_false]
   refine wpAnyH_ready (rs := [1]) (by kernel_rfl) (by simp) ?_
   refine AllReadyH.cons (o := ⟨_, _, _, _, _, _⟩) rfl (fun K hK => ?_) AllReadyH.nil
   ·refine (if_pos (show Region.wanted _ _ = true by kernel_rfl)).mpr ?_
    refine call_by 28 [] #[] rfl run_mnS _ rfl (specMachineNew0 _) ?_
    rintro e u ⟨rfl, hb⟩
    refine ⟨_, rfl, ?_⟩
    refine hK.out _ _ trivial (fun _ => ?_)
    try simp only [Act.put, List.setIfInBounds_toArray, List.set_cons_zero, List.set_cons_succ]
    exact ih true false false true true true x gV gM gB u rfl (hI.one hb)
  ·exact absurd (hI.2.2.2.2.2.2.2.2.2.2 rfl) (by decide)
  ·exact absurd (hI.2.2.2.2.2.2.2.2.2.2 rfl) (by decide)
  ·exact absurd (hI.2.2.2.2.2.2.2.2.2.2 rfl) (by decide)
  ·exact absurd (hI.2.2.2.2.2.2.2.2.2.2 rfl) (by decide)
  ·exact absurd (hI.2.2.2.2.2.2.2.2.2.2 rfl) (by decide)
  ·exact absurd (hI.2.2.2.2.2.2.2.2.2.2 rfl) (by decide)
  ·exact absurd (hI.2.2.2.2.2.2.2.2.2.2 rfl) (by decide)
  ·exact absurd (hI.2.2.2.2.2.2.2.2.2.2 rfl) (by decide)
  ·exact absurd (hI.2.2.2.2.2.2.2.2.2.1 rfl) (by decide)
  ·exact absurd (hI.2.2.2.2.2.2.2.2.2.1 rfl) (by decide)
  ·exact absurd (hI.2.2.2.2.2.2.2.2.2.1 rfl) (by decide)
  ·exact absurd (hI.2.2.2.2.2.2.2.2.2.1 rfl) (by decide)
  ·exact absurd (hI.2.2.2.2.2.2.2.2.2.1 rfl) (by decide)
  ·exact absurd (hI.2.2.2.2.2.2.2.2.2.1 rfl) (by decide)
  ·exact absurd (hI.2.2.2.2.2.2.2.2.2.1 rfl) (by decide)
  ·exact absurd (hI.2.2.2.2.2.2.2.2.2.1 rfl) (by decide)
  ·exact absurd (hI.2.2.2.2.2.2.2.2.2.1 rfl) (by decide)
  ·exact absurd (hI.2.2.2.2.2.2.2.2.2.1 rfl) (by decide)
  ·exact absurd (hI.2.2.2.2.2.2.2.2.2.1 rfl) (by decide)
  ·exact absurd (hI.2.2.2.2.2.2.2.2.2.1 rfl) (by decide)
  ·exact absurd (hI.2.2.2.2.2.2.2.2.2.1 rfl) (by decide)
  ·exact absurd (hI.2.2.2.2.2.2.2.2.2.1 rfl) (by decide)
  ·exact absurd (hI.2.2.2.2.2.2.2.2.2.1 rfl) (by decide)
  ·exact absurd (hI.2.2.2.2.2.2.2.2.2.1 rfl) (by decide)
  ·have hN2 : N = 4 := by unfold cnt6 cnt5 at hN; simp at hN; omega
   subst hN2
   simp only [cond_true, cond_false]
   refine wpAnyH_ready (rs := [2, 4, 8, 10]) (by kernel_rfl) (by simp) ?_
   refine AllReadyH.cons (o := ⟨_, _, _, _, _, _⟩) rfl (fun K hK => ?_) (AllReadyH.cons (o := ⟨_, _, _, _, _, _⟩) rfl (fun K hK => ?_) (AllReadyH.cons (o := ⟨_, _, _, _, _, _⟩) rfl (fun K hK => ?_) (AllReadyH.cons (o := ⟨_, _, _, _, _, _⟩) rfl (fun K hK => ?_) AllReadyH.nil)))
   ·refine (if_pos (show Region.wanted _ _ = true by kernel_rfl)).mpr ?_
    refine call_by 28 [] #[] rfl run_mnS _ rfl (specMachineNew0 _) ?_
    rintro e u ⟨rfl, hb⟩
    refine ⟨_, rfl, ?_⟩
    refine hK.out _ _ trivial (fun _ => ?_)
    try simp only [Act.put, List.setIfInBounds_toArray, List.set_cons_zero, List.set_cons_succ]
    exact ih true true false false false false x gV gM gB u rfl (hI.two hb)
   ·refine (if_pos (show Region.wanted _ _ = true by kernel_rfl)).mpr ?_
    refine wp_mkV _ _ k rfl rfl rfl HK.out.1 HK.out.2 (fun u hb hl ho => ?_)
    refine hK.out _ _ trivial (fun _ => ?_)
    try simp only [Act.put, List.setIfInBounds_toArray, List.set_cons_zero, List.set_cons_succ]
    exact ih true false false true false false x _ gM gB u rfl (hI.vot hb hl ho)
   ·refine (if_pos (show Region.wanted _ _ = true by kernel_rfl)).mpr ?_
    refine wp_mkI _ _ k rfl rfl rfl HK.out.1 HK.out.2 (fun u hb hl ho => ?_)
    refine hK.out _ _ trivial (fun _ => ?_)
    try simp only [Act.put, List.setIfInBounds_toArray, List.set_cons_zero, List.set_cons_succ]
    exact ih true false false false true false x gV _ gB u rfl (hI.mat hb hl ho)
   ·refine (if_pos (show Region.wanted _ _ = true by kernel_rfl)).mpr ?_
    refine wp_newN rfl ?_
    refine hK.out _ _ trivial (fun _ => ?_)
    try simp only [Act.put, List.setIfInBounds_toArray, List.set_cons_zero, List.set_cons_succ]
    exact ih true false false false false true x gV gM _ _ rfl (hI.var)
  ·have hN2 : N = 3 := by unfold cnt6 cnt5 at hN; simp at hN; omega
   subst hN2
   simp only [cond_true, cond_false]
   refine wpAnyH_ready (rs := [2, 4, 8]) (by kernel_rfl) (by simp) ?_
   refine AllReadyH.cons (o := ⟨_, _, _, _, _, _⟩) rfl (fun K hK => ?_) (AllReadyH.cons (o := ⟨_, _, _, _, _, _⟩) rfl (fun K hK => ?_) (AllReadyH.cons (o := ⟨_, _, _, _, _, _⟩) rfl (fun K hK => ?_) AllReadyH.nil))
   ·refine (if_pos (show Region.wanted _ _ = true by kernel_rfl)).mpr ?_
    refine call_by 28 [] #[] rfl run_mnS _ rfl (specMachineNew0 _) ?_
    rintro e u ⟨rfl, hb⟩
    refine ⟨_, rfl, ?_⟩
    refine hK.out _ _ trivial (fun _ => ?_)
    try simp only [Act.put, List.setIfInBounds_toArray, List.set_cons_zero, List.set_cons_succ]
    exact ih true true false false false true x gV gM gB u rfl (hI.two hb)
   ·refine (if_pos (show Region.wanted _ _ = true by kernel_rfl)).mpr ?_
    refine wp_mkV _ _ k rfl rfl rfl HK.out.1 HK.out.2 (fun u hb hl ho => ?_)
    refine hK.out _ _ trivial (fun _ => ?_)
    try simp only [Act.put, List.setIfInBounds_toArray, List.set_cons_zero, List.set_cons_succ]
    exact ih true false false true false true x _ gM gB u rfl (hI.vot hb hl ho)
   ·refine (if_pos (show Region.wanted _ _ = true by kernel_rfl)).mpr ?_
    refine wp_mkI _ _ k rfl rfl rfl HK.out.1 HK.out.2 (fun u hb hl ho => ?_)
    refine hK.out _ _ trivial (fun _ => ?_)
    try simp only [Act.put, List.setIfInBounds_toArray, List.set_cons_zero, List.set_cons_succ]
    exact ih true false false false true true x gV _ gB u rfl (hI.mat hb hl ho)
  ·have hN2 : N = 3 := by unfold cnt6 cnt5 at hN; simp at hN; omega
   subst hN2
   simp only [cond_true, cond_false]
   refine wpAnyH_ready (rs := [2, 4, 10]) (by kernel_rfl) (by simp) ?_
   refine AllReadyH.cons (o := ⟨_, _, _, _, _, _⟩) rfl (fun K hK => ?_) (AllReadyH.cons (o := ⟨_, _, _, _, _, _⟩) rfl (fun K hK => ?_) (AllReadyH.cons (o := ⟨_, _, _, _, _, _⟩) rfl (fun K hK => ?_) AllReadyH.nil))
   ·refine (if_pos (show Region.wanted _ _ = true by kernel_rfl)).mpr ?_
    refine call_by 28 [] #[] rfl run_mnS _ rfl (specMachineNew0 _) ?_
    rintro e u ⟨rfl, hb⟩
    refine ⟨_, rfl, ?_⟩
    refine hK.out _ _ trivial (fun _ => ?_)
    try simp only [Act.put, List.setIfInBounds_toArray, List.set_cons_zero, List.set_cons_succ]
    exact ih true true false false true false x gV gM gB u rfl (hI.two hb)
   ·refine (if_pos (show Region.wanted _ _ = true by kernel_rfl)).mpr ?_
    refine wp_mkV _ _ k rfl rfl rfl HK.out.1 HK.out.2 (fun u hb hl ho => ?_)
    refine hK.out _ _ trivial (fun _ => ?_)
    try simp only [Act.put, List.setIfInBounds_toArray, List.set_cons_zero, List.set_cons_succ]
    exact ih true false false true true false x _ gM gB u rfl (hI.vot hb hl ho)
   ·refine (if_pos (show Region.wanted _ _ = true by kernel_rfl)).mpr ?_
    refine wp_newN rfl ?_
    refine hK.out _ _ trivial (fun _ => ?_)
    try simp only [Act.put, List.setIfInBounds_toArray, List.set_cons_zero, List.set_cons_succ]
    exact ih true false false false true true x gV gM _ _ rfl (hI.var)
  ·have hN2 : N = 2 := by unfold cnt6 cnt5 at hN; simp at hN; omega
   subst hN2
   simp only [cond_true, cond_false]
   refine wpAnyH_ready (rs := [2, 4]) (by kernel_rfl) (by simp) ?_
   refine AllReadyH.cons (o := ⟨_, _, _, _, _, _⟩) rfl (fun K hK => ?_) (AllReadyH.cons (o := ⟨_, _, _, _, _, _⟩) rfl (fun K hK => ?_) AllReadyH.nil)
   ·refine (if_pos (show Region.wanted _ _ = true by kernel_rfl)).mpr ?_
    refine call_by 28 [] #[] rfl run_mnS _ rfl (specMachineNew0 _) ?_
    rintro e u ⟨rfl, hb⟩
    refine ⟨_, rfl, ?_⟩
    refine hK.out _ _ trivial (fun _ => ?_)
    try simp only [Act.put, List.setIfInBounds_toArray, List.set_cons_zero, List.set_cons_succ]
    exact ih true true false false true true x gV gM gB u rfl (hI.two hb)
   ·refine (if_pos (show Region.wanted _ _ = true by kernel_rfl)).mpr ?_
    refine wp_mkV _ _ k rfl rfl rfl HK.out.1 HK.out.2 (fun u hb hl ho => ?_)
    refine hK.out _ _ trivial (fun _ => ?_)
    try simp only [Act.put, List.setIfInBounds_toArray, List.set_cons_zero, List.set_cons_succ]
    exact ih true false false true true true x _ gM gB u rfl (hI.vot hb hl ho)
  ·have hN2 : N = 3 := by unfold cnt6 cnt5 at hN; simp at hN; omega
   subst hN2
   simp only [cond_true, cond_false]
   refine wpAnyH_ready (rs := [2, 8, 10]) (by kernel_rfl) (by simp) ?_
   refine AllReadyH.cons (o := ⟨_, _, _, _, _, _⟩) rfl (fun K hK => ?_) (AllReadyH.cons (o := ⟨_, _, _, _, _, _⟩) rfl (fun K hK => ?_) (AllReadyH.cons (o := ⟨_, _, _, _, _, _⟩) rfl (fun K hK => ?_) AllReadyH.nil))
   ·refine (if_pos (show Region.wanted _ _ = true by kernel_rfl)).mpr ?_
    refine call_by 28 [] #[] rfl run_mnS _ rfl (specMachineNew0 _) ?_
    rintro e u ⟨rfl, hb⟩
    refine ⟨_, rfl, ?_⟩
    refine hK.out _ _ trivial (fun _ => ?_)
    try simp only [Act.put, List.setIfInBounds_toArray, List.set_cons_zero, List.set_cons_succ]
    exact ih true true false true false false x gV gM gB u rfl (hI.two hb)
   ·refine (if_pos (show Region.wanted _ _ = true by kernel_rfl)).mpr ?_
    refine wp_mkI _ _ k rfl rfl rfl HK.out.1 HK.out.2 (fun u hb hl ho => ?_)
    refine hK.out _ _ trivial (fun _ => ?_)
    try simp only [Act.put, List.setIfInBounds_toArray, List.set_cons_zero, List.set_cons_succ]
    exact ih true false false true true false x gV _ gB u rfl (hI.mat hb hl ho)
   ·refine (if_pos (show Region.wanted _ _ = true by kernel_rfl)).mpr ?_
    refine wp_newN rfl ?_
    refine hK.out _ _ trivial (fun _ => ?_)
    try simp only [Act.put, List.setIfInBounds_toArray, List.set_cons_zero, List.set_cons_succ]
    exact ih true false false true false true x gV gM _ _ rfl (hI.var)
  ·have hN2 : N = 2 := by unfold cnt6 cnt5 at hN; simp at hN; omega
   subst hN2
   simp only [cond_true, cond_false]
   refine wpAnyH_ready (rs := [2, 8]) (by kernel_rfl) (by simp) ?_
   refine AllReadyH.cons (o := ⟨_, _, _, _, _, _⟩) rfl (fun K hK => ?_) (AllReadyH.cons (o := ⟨_, _, _, _, _, _⟩) rfl (fun K hK => ?_) AllReadyH.nil)
   ·refine (if_pos (show Region.wanted _ _ = true by kernel_rfl)).mpr ?_
    refine call_by 28 [] #[] rfl run_mnS _ rfl (specMachineNew0 _) ?_
    rintro e u ⟨rfl, hb⟩
    refine ⟨_, rfl, ?_⟩
    refine hK.out _ _ trivial (fun _ => ?_)
    try simp only [Act.put, List.setIfInBounds_toArray, List.set_cons_zero, List.set_cons_succ]
    exact ih true true false true false true x gV gM gB u rfl (hI.two hb)
   ·refine (if_pos (show Region.wanted _ _ = true by kernel_rfl)).mpr ?_
    refine wp_mkI _ _ k rfl rfl rfl HK.out.1 HK.out.2 (fun u hb hl ho => ?_)
    refine hK.out _ _ trivial (fun _ => ?_)
    try simp only [Act.put, List.setIfInBounds_toArray, List.set_cons_zero, List.set_cons_succ]
    exact ih true false false true true true x gV _ gB u rfl (hI.mat hb hl ho)
  ·have hN2 : N = 2 := by unfold cnt6 cnt5 at hN; simp at hN; omega
   subst hN2
   simp only [cond_true, cond_false]
   refine wpAnyH_ready (rs := [2, 10]) (by kernel_rfl) (by simp) ?_
   refine AllReadyH.cons (o := ⟨_, _, _, _, _, _⟩) rfl (fun K hK => ?_) (AllReadyH.cons (o := ⟨_, _, _, _, _, _⟩) rfl (fun K hK => ?_) AllReadyH.nil)
   ·refine (if_pos (show Region.wanted _ _ = true by kernel_rfl)).mpr ?_
    refine call_by 28 [] #[] rfl run_mnS _ rfl (specMachineNew0 _) ?_
    rintro e u ⟨rfl, hb⟩
    refine ⟨_, rfl, ?_⟩
    refine hK.out _ _ trivial (fun _ => ?_)
    try simp only [Act.put, List.setIfInBounds_toArray, List.set_cons_zero, List.set_cons_succ]
    exact ih true true false true true false x gV gM gB u rfl (hI.two hb)
   ·refine (if_pos (show Region.wanted _ _ = true by kernel_rfl)).mpr ?_
    refine wp_newN rfl ?_
    refine hK.out _ _ trivial (fun _ => ?_)
    try simp only [Act.put, List.setIfInBounds_toArray, List.set_cons_zero, List.set_cons_succ]
    exact ih true false false true true true x gV gM _ _ rfl (hI.var)
  ·have hN2 : N = 1 := by unfold cnt6 cnt5 at hN; simp at hN; omega
   subst hN2
   simp only [cond_true, cond_false]
   refine wpAnyH_ready (rs := [2]) (by kernel_rfl) (by simp) ?_
   refine AllReadyH.cons (o := ⟨_, _, _, _, _, _⟩) rfl (fun K hK => ?_) AllReadyH.nil
   ·refine (if_pos (show Region.wanted _ _ = true by kernel_rfl)).mpr ?_
    refine call_by 28 [] #[] rfl run_mnS _ rfl (specMachineNew0 _) ?_
    rintro e u ⟨rfl, hb⟩
    refine ⟨_, rfl, ?_⟩
    refine hK.out _ _ trivial (fun _ => ?_)
    try simp only [Act.put, List.setIfInBounds_toArray, List.set_cons_zero, List.set_cons_succ]
    exact ih true true false true true true x gV gM gB u rfl (hI.two hb)
  ·exact absurd (hI.2.2.2.2.2.2.2.2.2.2 rfl) (by decide)
  ·exact absurd (hI.2.2.2.2.2.2.2.2.2.2 rfl) (by decide)
  ·exact absurd (hI.2.2.2.2.2.2.2.2.2.2 rfl) (by decide)
  ·exact absurd (hI.2.2.2.2.2.2.2.2.2.2 rfl) (by decide)
  ·exact absurd (hI.2.2.2.2.2.2.2.2.2.2 rfl) (by decide)
  ·exact absurd (hI.2.2.2.2.2.2.2.2.2.2 rfl) (by decide)
  ·exact absurd (hI.2.2.2.2.2.2.2.2.2.2 rfl) (by decide)
  ·exact absurd (hI.2.2.2.2.2.2.2.2.2.2 rfl) (by decide)
  ·have hN2 : N = 3 := by unfold cnt6 cnt5 at hN; simp at hN; omega
   subst hN2
   simp only [cond_true, cond_false]
   refine wpAnyH_ready (rs := [4, 6, 8, 10]) (by kernel_rfl) (by simp) ?_
   refine AllReadyH.cons (o := ⟨_, _, _, _, _, _⟩) rfl (fun K hK => ?_) (AllReadyH.cons (o := ⟨_, _, _, _, _, _⟩) rfl (fun K hK => ?_) (AllReadyH.cons (o := ⟨_, _, _, _, _, _⟩) rfl (fun K hK => ?_) (AllReadyH.cons (o := ⟨_, _, _, _, _, _⟩) rfl (fun K hK => ?_) AllReadyH.nil)))
   ·refine (if_pos (show Region.wanted _ _ = true by kernel_rfl)).mpr ?_
    refine wp_mkV _ _ k rfl rfl rfl HK.out.1 HK.out.2 (fun u hb hl ho => ?_)
    refine hK.out _ _ trivial (fun _ => ?_)
    try simp only [Act.put, List.setIfInBounds_toArray, List.set_cons_zero, List.set_cons_succ]
    exact ih true true false true false false x _ gM gB u rfl (hI.vot hb hl ho)
   ·refine (if_pos (show Region.wanted _ _ = true by kernel_rfl)).mpr ?_
    refine call_by 29 [.tmp 16, .const (.int .i64 1)] #[3, 3] rfl run_onS _ rfl (l9Ones_any k 1 _ (by have := HK.out; omega)) ?_
    rintro e u ⟨z, rfl, ho, hb⟩
    obtain ⟨y, hy⟩ := ho.sl
    subst hy
    refine ⟨_, rfl, ?_⟩
    refine hK.out _ _ trivial (fun _ => ?_)
    try simp only [Act.put, List.setIfInBounds_toArray, List.set_cons_zero, List.set_cons_succ]
    exact ih true true true false false false y gV gM gB u rfl (hI.ons hb ho)
   ·refine (if_pos (show Region.wanted _ _ = true by kernel_rfl)).mpr ?_
    refine wp_mkI _ _ k rfl rfl rfl HK.out.1 HK.out.2 (fun u hb hl ho => ?_)
    refine hK.out _ _ trivial (fun _ => ?_)
    try simp only [Act.put, List.setIfInBounds_toArray, List.set_cons_zero, List.set_cons_succ]
    exact ih true true false false true false x gV _ gB u rfl (hI.mat hb hl ho)
   ·refine (if_pos (show Region.wanted _ _ = true by kernel_rfl)).mpr ?_
    refine wp_newN rfl ?_
    refine hK.out _ _ trivial (fun _ => ?_)
    try simp only [Act.put, List.setIfInBounds_toArray, List.set_cons_zero, List.set_cons_succ]
    exact ih true true false false false true x gV gM _ _ rfl (hI.var)
  ·have hN2 : N = 2 := by unfold cnt6 cnt5 at hN; simp at hN; omega
   subst hN2
   simp only [cond_true, cond_false]
   refine wpAnyH_ready (rs := [4, 6, 8]) (by kernel_rfl) (by simp) ?_
   refine AllReadyH.cons (o := ⟨_, _, _, _, _, _⟩) rfl (fun K hK => ?_) (AllReadyH.cons (o := ⟨_, _, _, _, _, _⟩) rfl (fun K hK => ?_) (AllReadyH.cons (o := ⟨_, _, _, _, _, _⟩) rfl (fun K hK => ?_) AllReadyH.nil))
   ·refine (if_pos (show Region.wanted _ _ = true by kernel_rfl)).mpr ?_
    refine wp_mkV _ _ k rfl rfl rfl HK.out.1 HK.out.2 (fun u hb hl ho => ?_)
    refine hK.out _ _ trivial (fun _ => ?_)
    try simp only [Act.put, List.setIfInBounds_toArray, List.set_cons_zero, List.set_cons_succ]
    exact ih true true false true false true x _ gM gB u rfl (hI.vot hb hl ho)
   ·refine (if_pos (show Region.wanted _ _ = true by kernel_rfl)).mpr ?_
    refine call_by 29 [.tmp 16, .const (.int .i64 1)] #[3, 3] rfl run_onS _ rfl (l9Ones_any k 1 _ (by have := HK.out; omega)) ?_
    rintro e u ⟨z, rfl, ho, hb⟩
    obtain ⟨y, hy⟩ := ho.sl
    subst hy
    refine ⟨_, rfl, ?_⟩
    refine hK.out _ _ trivial (fun _ => ?_)
    try simp only [Act.put, List.setIfInBounds_toArray, List.set_cons_zero, List.set_cons_succ]
    exact ih true true true false false true y gV gM gB u rfl (hI.ons hb ho)
   ·refine (if_pos (show Region.wanted _ _ = true by kernel_rfl)).mpr ?_
    refine wp_mkI _ _ k rfl rfl rfl HK.out.1 HK.out.2 (fun u hb hl ho => ?_)
    refine hK.out _ _ trivial (fun _ => ?_)
    try simp only [Act.put, List.setIfInBounds_toArray, List.set_cons_zero, List.set_cons_succ]
    exact ih true true false false true true x gV _ gB u rfl (hI.mat hb hl ho)
  ·have hN2 : N = 2 := by unfold cnt6 cnt5 at hN; simp at hN; omega
   subst hN2
   simp only [cond_true, cond_false]
   refine wpAnyH_ready (rs := [4, 6, 10]) (by kernel_rfl) (by simp) ?_
   refine AllReadyH.cons (o := ⟨_, _, _, _, _, _⟩) rfl (fun K hK => ?_) (AllReadyH.cons (o := ⟨_, _, _, _, _, _⟩) rfl (fun K hK => ?_) (AllReadyH.cons (o := ⟨_, _, _, _, _, _⟩) rfl (fun K hK => ?_) AllReadyH.nil))
   ·refine (if_pos (show Region.wanted _ _ = true by kernel_rfl)).mpr ?_
    refine wp_mkV _ _ k rfl rfl rfl HK.out.1 HK.out.2 (fun u hb hl ho => ?_)
    refine hK.out _ _ trivial (fun _ => ?_)
    try simp only [Act.put, List.setIfInBounds_toArray, List.set_cons_zero, List.set_cons_succ]
    exact ih true true false true true false x _ gM gB u rfl (hI.vot hb hl ho)
   ·refine (if_pos (show Region.wanted _ _ = true by kernel_rfl)).mpr ?_
    refine call_by 29 [.tmp 16, .const (.int .i64 1)] #[3, 3] rfl run_onS _ rfl (l9Ones_any k 1 _ (by have := HK.out; omega)) ?_
    rintro e u ⟨z, rfl, ho, hb⟩
    obtain ⟨y, hy⟩ := ho.sl
    subst hy
    refine ⟨_, rfl, ?_⟩
    refine hK.out _ _ trivial (fun _ => ?_)
    try simp only [Act.put, List.setIfInBounds_toArray, List.set_cons_zero, List.set_cons_succ]
    exact ih true true true false true false y gV gM gB u rfl (hI.ons hb ho)
   ·refine (if_pos (show Region.wanted _ _ = true by kernel_rfl)).mpr ?_
    refine wp_newN rfl ?_
    refine hK.out _ _ trivial (fun _ => ?_)
    try simp only [Act.put, List.setIfInBounds_toArray, List.set_cons_zero, List.set_cons_succ]
    exact ih true true false false true true x gV gM _ _ rfl (hI.var)
  ·have hN2 : N = 1 := by unfold cnt6 cnt5 at hN; simp at hN; omega
   subst hN2
   simp only [cond_true, cond_false]
   refine wpAnyH_ready (rs := [4, 6]) (by kernel_rfl) (by simp) ?_
   refine AllReadyH.cons (o := ⟨_, _, _, _, _, _⟩) rfl (fun K hK => ?_) (AllReadyH.cons (o := ⟨_, _, _, _, _, _⟩) rfl (fun K hK => ?_) AllReadyH.nil)
   ·refine (if_pos (show Region.wanted _ _ = true by kernel_rfl)).mpr ?_
    refine wp_mkV _ _ k rfl rfl rfl HK.out.1 HK.out.2 (fun u hb hl ho => ?_)
    refine hK.out _ _ trivial (fun _ => ?_)
    try simp only [Act.put, List.setIfInBounds_toArray, List.set_cons_zero, List.set_cons_succ]
    exact ih true true false true true true x _ gM gB u rfl (hI.vot hb hl ho)
   ·refine (if_pos (show Region.wanted _ _ = true by kernel_rfl)).mpr ?_
    refine call_by 29 [.tmp 16, .const (.int .i64 1)] #[3, 3] rfl run_onS _ rfl (l9Ones_any k 1 _ (by have := HK.out; omega)) ?_
    rintro e u ⟨z, rfl, ho, hb⟩
    obtain ⟨y, hy⟩ := ho.sl
    subst hy
    refine ⟨_, rfl, ?_⟩
    refine hK.out _ _ trivial (fun _ => ?_)
    try simp only [Act.put, List.setIfInBounds_toArray, List.set_cons_zero, List.set_cons_succ]
    exact ih true true true false true true y gV gM gB u rfl (hI.ons hb ho)
  ·have hN2 : N = 2 := by unfold cnt6 cnt5 at hN; simp at hN; omega
   subst hN2
   simp only [cond_true, cond_false]
   refine wpAnyH_ready (rs := [6, 8, 10]) (by kernel_rfl) (by simp) ?_
   refine AllReadyH.cons (o := ⟨_, _, _, _, _, _⟩) rfl (fun K hK => ?_) (AllReadyH.cons (o := ⟨_, _, _, _, _, _⟩) rfl (fun K hK => ?_) (AllReadyH.cons (o := ⟨_, _, _, _, _, _⟩) rfl (fun K hK => ?_) AllReadyH.nil))
   ·refine (if_pos (show Region.wanted _ _ = true by kernel_rfl)).mpr ?_
    refine call_by 29 [.tmp 16, .const (.int .i64 1)] #[3, 3] rfl run_onS _ rfl (l9Ones_any k 1 _ (by have := HK.out; omega)) ?_
    rintro e u ⟨z, rfl, ho, hb⟩
    obtain ⟨y, hy⟩ := ho.sl
    subst hy
    refine ⟨_, rfl, ?_⟩
    refine hK.out _ _ trivial (fun _ => ?_)
    try simp only [Act.put, List.setIfInBounds_toArray, List.set_cons_zero, List.set_cons_succ]
    exact ih true true true true false false y gV gM gB u rfl (hI.ons hb ho)
   ·refine (if_pos (show Region.wanted _ _ = true by kernel_rfl)).mpr ?_
    refine wp_mkI _ _ k rfl rfl rfl HK.out.1 HK.out.2 (fun u hb hl ho => ?_)
    refine hK.out _ _ trivial (fun _ => ?_)
    try simp only [Act.put, List.setIfInBounds_toArray, List.set_cons_zero, List.set_cons_succ]
    exact ih true true false true true false x gV _ gB u rfl (hI.mat hb hl ho)
   ·refine (if_pos (show Region.wanted _ _ = true by kernel_rfl)).mpr ?_
    refine wp_newN rfl ?_
    refine hK.out _ _ trivial (fun _ => ?_)
    try simp only [Act.put, List.setIfInBounds_toArray, List.set_cons_zero, List.set_cons_succ]
    exact ih true true false true false true x gV gM _ _ rfl (hI.var)
  ·have hN2 : N = 1 := by unfold cnt6 cnt5 at hN; simp at hN; omega
   subst hN2
   simp only [cond_true, cond_false]
   refine wpAnyH_ready (rs := [6, 8]) (by kernel_rfl) (by simp) ?_
   refine AllReadyH.cons (o := ⟨_, _, _, _, _, _⟩) rfl (fun K hK => ?_) (AllReadyH.cons (o := ⟨_, _, _, _, _, _⟩) rfl (fun K hK => ?_) AllReadyH.nil)
   ·refine (if_pos (show Region.wanted _ _ = true by kernel_rfl)).mpr ?_
    refine call_by 29 [.tmp 16, .const (.int .i64 1)] #[3, 3] rfl run_onS _ rfl (l9Ones_any k 1 _ (by have := HK.out; omega)) ?_
    rintro e u ⟨z, rfl, ho, hb⟩
    obtain ⟨y, hy⟩ := ho.sl
    subst hy
    refine ⟨_, rfl, ?_⟩
    refine hK.out _ _ trivial (fun _ => ?_)
    try simp only [Act.put, List.setIfInBounds_toArray, List.set_cons_zero, List.set_cons_succ]
    exact ih true true true true false true y gV gM gB u rfl (hI.ons hb ho)
   ·refine (if_pos (show Region.wanted _ _ = true by kernel_rfl)).mpr ?_
    refine wp_mkI _ _ k rfl rfl rfl HK.out.1 HK.out.2 (fun u hb hl ho => ?_)
    refine hK.out _ _ trivial (fun _ => ?_)
    try simp only [Act.put, List.setIfInBounds_toArray, List.set_cons_zero, List.set_cons_succ]
    exact ih true true false true true true x gV _ gB u rfl (hI.mat hb hl ho)
  ·have hN2 : N = 1 := by unfold cnt6 cnt5 at hN; simp at hN; omega
   subst hN2
   simp only [cond_true, cond_false]
   refine wpAnyH_ready (rs := [6, 10]) (by kernel_rfl) (by simp) ?_
   refine AllReadyH.cons (o := ⟨_, _, _, _, _, _⟩) rfl (fun K hK => ?_) (AllReadyH.cons (o := ⟨_, _, _, _, _, _⟩) rfl (fun K hK => ?_) AllReadyH.nil)
   ·refine (if_pos (show Region.wanted _ _ = true by kernel_rfl)).mpr ?_
    refine call_by 29 [.tmp 16, .const (.int .i64 1)] #[3, 3] rfl run_onS _ rfl (l9Ones_any k 1 _ (by have := HK.out; omega)) ?_
    rintro e u ⟨z, rfl, ho, hb⟩
    obtain ⟨y, hy⟩ := ho.sl
    subst hy
    refine ⟨_, rfl, ?_⟩
    refine hK.out _ _ trivial (fun _ => ?_)
    try simp only [Act.put, List.setIfInBounds_toArray, List.set_cons_zero, List.set_cons_succ]
    exact ih true true true true true false y gV gM gB u rfl (hI.ons hb ho)
   ·refine (if_pos (show Region.wanted _ _ = true by kernel_rfl)).mpr ?_
    refine wp_newN rfl ?_
    refine hK.out _ _ trivial (fun _ => ?_)
    try simp only [Act.put, List.setIfInBounds_toArray, List.set_cons_zero, List.set_cons_succ]
    exact ih true true false true true true x gV gM _ _ rfl (hI.var)
  ·have hN2 : N = 0 := by unfold cnt6 cnt5 at hN; simp at hN; omega
   subst hN2
   simp only [cond_true, cond_false]
   refine wpAnyH_ready (rs := [6]) (by kernel_rfl) (by simp) ?_
   refine AllReadyH.cons (o := ⟨_, _, _, _, _, _⟩) rfl (fun K hK => ?_) AllReadyH.nil
   ·refine (if_pos (show Region.wanted _ _ = true by kernel_rfl)).mpr ?_
    refine call_by 29 [.tmp 16, .const (.int .i64 1)] #[3, 3] rfl run_onS _ rfl (l9Ones_any k 1 _ (by have := HK.out; omega)) ?_
    rintro e u ⟨z, rfl, ho, hb⟩
    obtain ⟨y, hy⟩ := ho.sl
    subst hy
    refine ⟨_, rfl, ?_⟩
    refine hK.out _ _ trivial (fun _ => ?_)
    try simp only [Act.put, List.setIfInBounds_toArray, List.set_cons_zero, List.set_cons_succ]
    exact ih true true true true true true y gV gM gB u rfl (hI.ons hb ho)
  ·have hN2 : N = 2 := by unfold cnt6 cnt5 at hN; simp at hN; omega
   subst hN2
   simp only [cond_true, cond_false]
   refine wpAnyH_ready (rs := [4, 8, 10]) (by kernel_rfl) (by simp) ?_
   refine AllReadyH.cons (o := ⟨_, _, _, _, _, _⟩) rfl (fun K hK => ?_) (AllReadyH.cons (o := ⟨_, _, _, _, _, _⟩) rfl (fun K hK => ?_) (AllReadyH.cons (o := ⟨_, _, _, _, _, _⟩) rfl (fun K hK => ?_) AllReadyH.nil))
   ·refine (if_pos (show Region.wanted _ _ = true by kernel_rfl)).mpr ?_
    refine wp_mkV _ _ k rfl rfl rfl HK.out.1 HK.out.2 (fun u hb hl ho => ?_)
    refine hK.out _ _ trivial (fun _ => ?_)
    try simp only [Act.put, List.setIfInBounds_toArray, List.set_cons_zero, List.set_cons_succ]
    exact ih true true true true false false x _ gM gB u rfl (hI.vot hb hl ho)
   ·refine (if_pos (show Region.wanted _ _ = true by kernel_rfl)).mpr ?_
    refine wp_mkI _ _ k rfl rfl rfl HK.out.1 HK.out.2 (fun u hb hl ho => ?_)
    refine hK.out _ _ trivial (fun _ => ?_)
    try simp only [Act.put, List.setIfInBounds_toArray, List.set_cons_zero, List.set_cons_succ]
    exact ih true true true false true false x gV _ gB u rfl (hI.mat hb hl ho)
   ·refine (if_pos (show Region.wanted _ _ = true by kernel_rfl)).mpr ?_
    refine wp_newN rfl ?_
    refine hK.out _ _ trivial (fun _ => ?_)
    try simp only [Act.put, List.setIfInBounds_toArray, List.set_cons_zero, List.set_cons_succ]
    exact ih true true true false false true x gV gM _ _ rfl (hI.var)
  ·have hN2 : N = 1 := by unfold cnt6 cnt5 at hN; simp at hN; omega
   subst hN2
   simp only [cond_true, cond_false]
   refine wpAnyH_ready (rs := [4, 8]) (by kernel_rfl) (by simp) ?_
   refine AllReadyH.cons (o := ⟨_, _, _, _, _, _⟩) rfl (fun K hK => ?_) (AllReadyH.cons (o := ⟨_, _, _, _, _, _⟩) rfl (fun K hK => ?_) AllReadyH.nil)
   ·refine (if_pos (show Region.wanted _ _ = true by kernel_rfl)).mpr ?_
    refine wp_mkV _ _ k rfl rfl rfl HK.out.1 HK.out.2 (fun u hb hl ho => ?_)
    refine hK.out _ _ trivial (fun _ => ?_)
    try simp only [Act.put, List.setIfInBounds_toArray, List.set_cons_zero, List.set_cons_succ]
    exact ih true true true true false true x _ gM gB u rfl (hI.vot hb hl ho)
   ·refine (if_pos (show Region.wanted _ _ = true by kernel_rfl)).mpr ?_
    refine wp_mkI _ _ k rfl rfl rfl HK.out.1 HK.out.2 (fun u hb hl ho => ?_)
    refine hK.out _ _ trivial (fun _ => ?_)
    try simp only [Act.put, List.setIfInBounds_toArray, List.set_cons_zero, List.set_cons_succ]
    exact ih true true true false true true x gV _ gB u rfl (hI.mat hb hl ho)
  ·have hN2 : N = 1 := by unfold cnt6 cnt5 at hN; simp at hN; omega
   subst hN2
   simp only [cond_true, cond_false]
   refine wpAnyH_ready (rs := [4, 10]) (by kernel_rfl) (by simp) ?_
   refine AllReadyH.cons (o := ⟨_, _, _, _, _, _⟩) rfl (fun K hK => ?_) (AllReadyH.cons (o := ⟨_, _, _, _, _, _⟩) rfl (fun K hK => ?_) AllReadyH.nil)
   ·refine (if_pos (show Region.wanted _ _ = true by kernel_rfl)).mpr ?_
    refine wp_mkV _ _ k rfl rfl rfl HK.out.1 HK.out.2 (fun u hb hl ho => ?_)
    refine hK.out _ _ trivial (fun _ => ?_)
    try simp only [Act.put, List.setIfInBounds_toArray, List.set_cons_zero, List.set_cons_succ]
    exact ih true true true true true false x _ gM gB u rfl (hI.vot hb hl ho)
   ·refine (if_pos (show Region.wanted _ _ = true by kernel_rfl)).mpr ?_
    refine wp_newN rfl ?_
    refine hK.out _ _ trivial (fun _ => ?_)
    try simp only [Act.put, List.setIfInBounds_toArray, List.set_cons_zero, List.set_cons_succ]
    exact ih true true true false true true x gV gM _ _ rfl (hI.var)
  ·have hN2 : N = 0 := by unfold cnt6 cnt5 at hN; simp at hN; omega
   subst hN2
   simp only [cond_true, cond_false]
   refine wpAnyH_ready (rs := [4]) (by kernel_rfl) (by simp) ?_
   refine AllReadyH.cons (o := ⟨_, _, _, _, _, _⟩) rfl (fun K hK => ?_) AllReadyH.nil
   ·refine (if_pos (show Region.wanted _ _ = true by kernel_rfl)).mpr ?_
    refine wp_mkV _ _ k rfl rfl rfl HK.out.1 HK.out.2 (fun u hb hl ho => ?_)
    refine hK.out _ _ trivial (fun _ => ?_)
    try simp only [Act.put, List.setIfInBounds_toArray, List.set_cons_zero, List.set_cons_succ]
    exact ih true true true true true true x _ gM gB u rfl (hI.vot hb hl ho)
  ·have hN2 : N = 1 := by unfold cnt6 cnt5 at hN; simp at hN; omega
   subst hN2
   simp only [cond_true, cond_false]
   refine wpAnyH_ready (rs := [8, 10]) (by kernel_rfl) (by simp) ?_
   refine AllReadyH.cons (o := ⟨_, _, _, _, _, _⟩) rfl (fun K hK => ?_) (AllReadyH.cons (o := ⟨_, _, _, _, _, _⟩) rfl (fun K hK => ?_) AllReadyH.nil)
   ·refine (if_pos (show Region.wanted _ _ = true by kernel_rfl)).mpr ?_
    refine wp_mkI _ _ k rfl rfl rfl HK.out.1 HK.out.2 (fun u hb hl ho => ?_)
    refine hK.out _ _ trivial (fun _ => ?_)
    try simp only [Act.put, List.setIfInBounds_toArray, List.set_cons_zero, List.set_cons_succ]
    exact ih true true true true true false x gV _ gB u rfl (hI.mat hb hl ho)
   ·refine (if_pos (show Region.wanted _ _ = true by kernel_rfl)).mpr ?_
    refine wp_newN rfl ?_
    refine hK.out _ _ trivial (fun _ => ?_)
    try simp only [Act.put, List.setIfInBounds_toArray, List.set_cons_zero, List.set_cons_succ]
    exact ih true true true true false true x gV gM _ _ rfl (hI.var)
  ·have hN2 : N = 0 := by unfold cnt6 cnt5 at hN; simp at hN; omega
   subst hN2
   simp only [cond_true, cond_false]
   refine wpAnyH_ready (rs := [8]) (by kernel_rfl) (by simp) ?_
   refine AllReadyH.cons (o := ⟨_, _, _, _, _, _⟩) rfl (fun K hK => ?_) AllReadyH.nil
   ·refine (if_pos (show Region.wanted _ _ = true by kernel_rfl)).mpr ?_
    refine wp_mkI _ _ k rfl rfl rfl HK.out.1 HK.out.2 (fun u hb hl ho => ?_)
    refine hK.out _ _ trivial (fun _ => ?_)
    try simp only [Act.put, List.setIfInBounds_toArray, List.set_cons_zero, List.set_cons_succ]
    exact ih true true true true true true x gV _ gB u rfl (hI.mat hb hl ho)
  ·have hN2 : N = 0 := by unfold cnt6 cnt5 at hN; simp at hN; omega
   subst hN2
   simp only [cond_true, cond_false]
   refine wpAnyH_take (i := 9) (oi := ⟨_, _, _, _, _, _⟩) (v := ?_) rfl (by kernel_rfl) (by kernel_rfl) (by kernel_rfl) (fun _ _ _ h => h) (Or.inl ⟨by rfl, ?_⟩) (by assumption) ?_
   rotate_left
   ·((intro w hSw; (try dsimp only at hSw); go_simp); (try with_reducible rfl))
   try simp only [Act.put, List.setIfInBounds_toArray, List.set_cons_zero, List.set_cons_succ]
   refine wpAnyH_ready (rs := [10]) (by kernel_rfl) (by simp) ?_
   refine AllReadyH.cons (o := ⟨_, _, _, _, _, _⟩) rfl (fun K hK => ?_) AllReadyH.nil
   refine (if_pos (show Region.wanted _ _ = true by kernel_rfl)).mpr ?_
   refine wp_newN rfl ?_
   refine hK.out _ _ trivial (fun _ => ?_)
   try simp only [Act.put, List.setIfInBounds_toArray, List.set_cons_zero, List.set_cons_succ]
   exact fin x gV gM _ _ hI.var
  ·simp [cnt6, cnt5] at hN
 case fin =>
  intro x gV gM gB W hI
  obtain ⟨B2, z1, Y1, f4, f8, f6, f10, p4, p8, -, -⟩ := hI
  obtain ⟨v1, v2, oV⟩ := f4 rfl
  obtain ⟨m1, m2, oM⟩ := f8 rfl
  have oN := f6 rfl
  obtain ⟨b1, b2, XB⟩ := f10 rfl
  have n4 := p4 rfl rfl
  have n8 := p8 rfl rfl
  clear f4 f8 f6 f10 p4 p8
  have TH : Hid (W.there gB 0 (List.toArray ([.int .i64 id, .int .i64 0, .int .i64 (-1), .int .i64 0, .int .i64 0, .slice none 0 0, .bool true, .slice none 0 0, .slice none 0 0, .slice none 0 0, .slice none 0 0, .slice none 0 0, .int .i64 0, .slice (some ⟨gV, 0, none⟩) k k, .slice x.1 x.2.1 x.2.2, .slice (some ⟨gM, 0, none⟩) k k, .int .i64 0, .bool true, .slice none 0 0, .slice none 0 0, .slice none 0 0, .slice none 0 0, .slice none 0 0] : List Value)).size) := there_of XB rfl
  have HM : Hid ((Try.prog.info? 48).map (·.size) = some (List.toArray ([.int .i64 id, .int .i64 0, .int .i64 (-1), .int .i64 0, .int .i64 0, .slice none 0 0, .bool true, .slice none 0 0, .slice none 0 0, .slice none 0 0, .slice none 0 0, .slice none 0 0, .int .i64 0, .slice (some ⟨gV, 0, none⟩) k k, .slice x.1 x.2.1 x.2.2, .slice (some ⟨gM, 0, none⟩) k k, .int .i64 0, .bool true, .slice none 0 0, .slice none 0 0, .slice none 0 0, .slice none 0 0, .slice none 0 0] : List Value)).size) := (show (Try.prog.info? 48).map (·.size) = some 23 by kernel_rfl)
  have AL : Hid ((List.toArray ([.int .i64 id, .int .i64 0, .int .i64 (-1), .int .i64 0, .int .i64 0, .slice none 0 0, .bool true, .slice none 0 0, .slice none 0 0, .slice none 0 0, .slice none 0 0, .slice none 0 0, .int .i64 0, .slice (some ⟨gV, 0, none⟩) k k, .slice x.1 x.2.1 x.2.2, .slice (some ⟨gM, 0, none⟩) k k, .int .i64 0, .bool true, .slice none 0 0, .slice none 0 0, .slice none 0 0, .slice none 0 0, .slice none 0 0] : List Value)).all (·.oneCell') = true) := by show _ = _; simp [Value.oneCell']
  have GC : Chg (fun g => g = gB) W (W.setCells gB 0 ([.int .i64 id, .int .i64 0, .int .i64 (-1), .int .i64 0, .int .i64 0, .slice none 0 0, .bool true, .slice none 0 0, .slice none 0 0, .slice none 0 0, .slice none 0 0, .slice none 0 0, .int .i64 0, .slice (some ⟨gV, 0, none⟩) k k, .slice x.1 x.2.1 x.2.2, .slice (some ⟨gM, 0, none⟩) k k, .int .i64 0, .bool true, .slice none 0 0, .slice none 0 0, .slice none 0 0, .slice none 0 0, .slice none 0 0] : List Value)) := Chg.setCells (F := fun g => g = gB) (g := gB) (fun _ => rfl) _ 0 W (Chg.refl _ _)
  have X1 : Hid ((W.setCells gB 0 ([.int .i64 id, .int .i64 0, .int .i64 (-1), .int .i64 0, .int .i64 0, .slice none 0 0, .bool true, .slice none 0 0, .slice none 0 0, .slice none 0 0, .slice none 0 0, .slice none 0 0, .int .i64 0, .slice (some ⟨gV, 0, none⟩) k k, .slice x.1 x.2.1 x.2.2, .slice (some ⟨gM, 0, none⟩) k k, .int .i64 0, .bool true, .slice none 0 0, .slice none 0 0, .slice none 0 0, .slice none 0 0, .slice none 0 0] : List Value)).heap[gB]? = some (.cells (List.toArray ([.int .i64 id, .int .i64 0, .int .i64 (-1), .int .i64 0, .int .i64 0, .slice none 0 0, .bool true, .slice none 0 0, .slice none 0 0, .slice none 0 0, .slice none 0 0, .slice none 0 0, .int .i64 0, .slice (some ⟨gV, 0, none⟩) k k, .slice x.1 x.2.1 x.2.2, .slice (some ⟨gM, 0, none⟩) k k, .int .i64 0, .bool true, .slice none 0 0, .slice none 0 0, .slice none 0 0, .slice none 0 0, .slice none 0 0] : List Value)) 48 (0, 0))) := setAll_at XB _ rfl
  have hz1 : W.heap.size ≤ (W.setCells gB 0 ([.int .i64 id, .int .i64 0, .int .i64 (-1), .int .i64 0, .int .i64 0, .slice none 0 0, .bool true, .slice none 0 0, .slice none 0 0, .slice none 0 0, .slice none 0 0, .slice none 0 0, .int .i64 0, .slice (some ⟨gV, 0, none⟩) k k, .slice x.1 x.2.1 x.2.2, .slice (some ⟨gM, 0, none⟩) k k, .int .i64 0, .bool true, .slice none 0 0, .slice none 0 0, .slice none 0 0, .slice none 0 0, .slice none 0 0] : List Value)).heap.size := GC.size
  have oV1 := oV.chg GC (fun g _ _ e => by omega)
  have oM1 := oM.chg GC (fun g _ _ e => by omega)
  have oN1 := oN.chg GC (fun g hg => ownE_apart oN XB (by decide) hg)
  have Y2 : Hid ((W.setCells gB 0 ([.int .i64 id, .int .i64 0, .int .i64 (-1), .int .i64 0, .int .i64 0, .slice none 0 0, .bool true, .slice none 0 0, .slice none 0 0, .slice none 0 0, .slice none 0 0, .slice none 0 0, .int .i64 0, .slice (some ⟨gV, 0, none⟩) k k, .slice x.1 x.2.1 x.2.2, .slice (some ⟨gM, 0, none⟩) k k, .int .i64 0, .bool true, .slice none 0 0, .slice none 0 0, .slice none 0 0, .slice none 0 0, .slice none 0 0] : List Value)).heap[w.heap.size]? = some (.cells #[.int .i64 0, .int .i64 0, .int .i64 0, .int .i64 0, .int .i64 0, .slice none 0 0, .bool false, .slice none 0 0, .slice none 0 0, .slice none 0 0, .slice none 0 0, .slice none 0 0, .int .i64 0, .slice none 0 0, .slice none 0 0, .slice none 0 0, .int .i64 0, .bool false, .slice none 0 0, .slice none 0 0, .slice none 0 0, .slice none 0 0, .slice none 0 0] 48 (0, 0))) := row_chg Y1 GC (fun e => by omega)
  have BV : Hid (Below w.heap.size w (W.setCells gB 0 ([.int .i64 id, .int .i64 0, .int .i64 (-1), .int .i64 0, .int .i64 0, .slice none 0 0, .bool true, .slice none 0 0, .slice none 0 0, .slice none 0 0, .slice none 0 0, .slice none 0 0, .int .i64 0, .slice (some ⟨gV, 0, none⟩) k k, .slice x.1 x.2.1 x.2.2, .slice (some ⟨gM, 0, none⟩) k k, .int .i64 0, .bool true, .slice none 0 0, .slice none 0 0, .slice none 0 0, .slice none 0 0, .slice none 0 0] : List Value))) := B2.trans (GC.below (fun g _ e => by omega) B2.size)
  have AT : Hid (∀ u, OwnI u gV (gV + 1) 4 1 (.slice (some ⟨gV, 0, none⟩) k k) k (List.replicate k (.bool false)) → OwnE u (w.heap.size + 1) 3 1 (.slice x.1 x.2.1 x.2.2) k (flatI (List.replicate k 1)) → OwnI u gM (gM + 1) 3 1 (.slice (some ⟨gM, 0, none⟩) k k) k (List.replicate k (.int .i64 0)) → NodF 1 u (fun g => w.heap.size ≤ g) (⟨id, 0, -1, 0, 0, .slice none 0 0, eM, 0, .slice (some ⟨gV, 0, none⟩) k k, .slice x.1 x.2.1 x.2.2, .slice (some ⟨gM, 0, none⟩) k k, 0, eM⟩ : NodV) (newD true k)) := fun u o1 o2 o3 => ⟨OwnS.none _ _ _ _, nM_own true 0 _ _, ⟨by have := o1.1.mono (Nat.zero_le _); simpa [newD, flatL] using this, fun g hg => by have := (o1.1.lt g hg).1; omega⟩, ⟨by have := o2.mono (Nat.zero_le _); simpa [newD] using this, fun g hg => by have := (o2.lt g hg).1; omega⟩, ⟨by have := o3.1.mono (Nat.zero_le _); simpa [newD, flatI] using this, fun g hg => by have := (o3.1.lt g hg).1; omega⟩, nM_own true 0 _ _⟩
  have OV := hid9 oV1
  have ON := hid9 oN1
  have OM := hid9 oM1
  have vg : Hid (w.heap.size < gV ∧ w.heap.size < gM) := ⟨v1, m1⟩
  refine wpAnyH_ready (rs := [11]) (by kernel_rfl) (by simp) ?_
  refine AllReadyH.cons (o := ⟨_, _, _, _, _, _⟩) rfl (fun K hK => ?_) AllReadyH.nil
  refine (if_pos (show Region.wanted _ _ = true by kernel_rfl)).mpr ?_
  refine wp_store_mid 48 _ _ rfl gB 0 (List.toArray ([.int .i64 id, .int .i64 0, .int .i64 (-1), .int .i64 0, .int .i64 0, .slice none 0 0, .bool true, .slice none 0 0, .slice none 0 0, .slice none 0 0, .slice none 0 0, .slice none 0 0, .int .i64 0, .slice (some ⟨gV, 0, none⟩) k k, .slice x.1 x.2.1 x.2.2, .slice (some ⟨gM, 0, none⟩) k k, .int .i64 0, .bool true, .slice none 0 0, .slice none 0 0, .slice none 0 0, .slice none 0 0, .slice none 0 0] : List Value)) rfl rfl TH.out HM.out AL.out ?_
  refine hK.out _ _ trivial (fun _ => ?_)
  clear hK K
  try simp only [Act.put]
  refine wpAnyH_done (by kernel_rfl) ?_ _
  have zb : Hid (gB ≠ w.heap.size) := by show _ ≠ _; omega
  clear TH HM AL oV1 oN1 oM1 oV oN oM XB Y1 B2 GC n4 n8 v1 v2 m1 m2 b1 b2 z1 hz1
  generalize (W.setCells gB 0 ([.int .i64 id, .int .i64 0, .int .i64 (-1), .int .i64 0, .int .i64 0, .slice none 0 0, .bool true, .slice none 0 0, .slice none 0 0, .slice none 0 0, .slice none 0 0, .slice none 0 0, .int .i64 0, .slice (some ⟨gV, 0, none⟩) k k, .slice x.1 x.2.1 x.2.2, .slice (some ⟨gM, 0, none⟩) k k, .int .i64 0, .bool true, .slice none 0 0, .slice none 0 0, .slice none 0 0, .slice none 0 0, .slice none 0 0] : List Value)) = V at *
  have OK : Hid (Calls Try.prog 30 #[.agg (List.toArray ([.int .i64 id, .int .i64 0, .int .i64 (-1), .int .i64 0, .int .i64 0, .slice none 0 0, .bool true, .slice none 0 0, .slice none 0 0, .slice none 0 0, .slice none 0 0, .slice none 0 0, .int .i64 0, .slice (some ⟨gV, 0, none⟩) k k, .slice x.1 x.2.1 x.2.2, .slice (some ⟨gM, 0, none⟩) k k, .int .i64 0, .bool true, .slice none 0 0, .slice none 0 0, .slice none 0 0, .slice none 0 0, .slice none 0 0] : List Value)), .int .i64 (k : Int)] V fun e w' => e = .returned (.bool (inB id 0 ((k : Int) - 1))) ∧ Below V.heap.size V w') := by
   have := specNodeOk_any 1 (⟨id, 0, -1, 0, 0, .slice none 0 0, eM, 0, .slice (some ⟨gV, 0, none⟩) k k, .slice x.1 x.2.1 x.2.2, .slice (some ⟨gM, 0, none⟩) k k, 0, eM⟩ : NodV) (newD true k) (k : Int) V (AT.out _ OV.out ON.out OM.out).at (newD_small true HK.out.2)
   rw [nodeOk_new id k HK.out.1 HK.out.2] at this
   exact this
  have KVV : Hid (Value.agg (List.toArray ([.int .i64 id, .int .i64 0, .int .i64 (-1), .int .i64 0, .int .i64 0, .slice none 0 0, .bool true, .slice none 0 0, .slice none 0 0, .slice none 0 0, .slice none 0 0, .slice none 0 0, .int .i64 0, .slice (some ⟨gV, 0, none⟩) k k, .slice x.1 x.2.1 x.2.2, .slice (some ⟨gM, 0, none⟩) k k, .int .i64 0, .bool true, .slice none 0 0, .slice none 0 0, .slice none 0 0, .slice none 0 0, .slice none 0 0] : List Value)) = (⟨id, 0, -1, 0, 0, .slice none 0 0, eM, 0, .slice (some ⟨gV, 0, none⟩) k k, .slice x.1 x.2.1 x.2.2, .slice (some ⟨gM, 0, none⟩) k k, 0, eM⟩ : NodV).val) := rfl
  have LK : Hid ((newV true id).like (⟨id, 0, -1, 0, 0, .slice none 0 0, eM, 0, .slice (some ⟨gV, 0, none⟩) k k, .slice x.1 x.2.1 x.2.2, .slice (some ⟨gM, 0, none⟩) k k, 0, eM⟩ : NodV)) := ⟨rfl, rfl, rfl, rfl, rfl, rfl, rfl⟩
  have AL : Hid ((List.toArray ([.int .i64 id, .int .i64 0, .int .i64 (-1), .int .i64 0, .int .i64 0, .slice none 0 0, .bool true, .slice none 0 0, .slice none 0 0, .slice none 0 0, .slice none 0 0, .slice none 0 0, .int .i64 0, .slice (some ⟨gV, 0, none⟩) k k, .slice x.1 x.2.1 x.2.2, .slice (some ⟨gM, 0, none⟩) k k, .int .i64 0, .bool true, .slice none 0 0, .slice none 0 0, .slice none 0 0, .slice none 0 0, .slice none 0 0] : List Value)).all (·.oneCell') = true) := by show _ = _; simp [Value.oneCell']
  have HM1 : Hid ((Try.prog.info? 48).map (·.size) = some (List.length ([.int .i64 id, .int .i64 0, .int .i64 (-1), .int .i64 0, .int .i64 0, .slice none 0 0, .bool true, .slice none 0 0, .slice none 0 0, .slice none 0 0, .slice none 0 0, .slice none 0 0, .int .i64 0, .slice (some ⟨gV, 0, none⟩) k k, .slice x.1 x.2.1 x.2.2, .slice (some ⟨gM, 0, none⟩) k k, .int .i64 0, .bool true, .slice none 0 0, .slice none 0 0, .slice none 0 0, .slice none 0 0, .slice none 0 0] : List Value))) := (show (Try.prog.info? 48).map (·.size) = some 23 by kernel_rfl)
  have LE : Hid (List.length ([.int .i64 id, .int .i64 0, .int .i64 (-1), .int .i64 0, .int .i64 0, .slice none 0 0, .bool true, .slice none 0 0, .slice none 0 0, .slice none 0 0, .slice none 0 0, .slice none 0 0, .int .i64 0, .slice (some ⟨gV, 0, none⟩) k k, .slice x.1 x.2.1 x.2.2, .slice (some ⟨gM, 0, none⟩) k k, .int .i64 0, .bool true, .slice none 0 0, .slice none 0 0, .slice none 0 0, .slice none 0 0, .slice none 0 0] : List Value) = 23) := rfl
  generalize (⟨id, 0, -1, 0, 0, .slice none 0 0, eM, 0, .slice (some ⟨gV, 0, none⟩) k k, .slice x.1 x.2.1 x.2.2, .slice (some ⟨gM, 0, none⟩) k k, 0, eM⟩ : NodV) = KV at *
  generalize ([.int .i64 id, .int .i64 0, .int .i64 (-1), .int .i64 0, .int .i64 0, .slice none 0 0, .bool true, .slice none 0 0, .slice none 0 0, .slice none 0 0, .slice none 0 0, .slice none 0 0, .int .i64 0, .slice (some ⟨gV, 0, none⟩) k k, .slice x.1 x.2.1 x.2.2, .slice (some ⟨gM, 0, none⟩) k k, .int .i64 0, .bool true, .slice none 0 0, .slice none 0 0, .slice none 0 0, .slice none 0 0, .slice none 0 0] : List Value) = ns at *
  have RG : Hid (V.rangeAt gB 0 ns) := by have := range_of X1.out; rw [List.toList_toArray] at this; exact this
  go_wp2_with (refine wpList_load_mid rfl 48 _ rfl gB 0 rfl ns _ RG.out Try.underlying48 rfl HM1.out ?_)
  refine OK.out.mono ?_
  rintro e V2 ⟨rfl, b2⟩
  have Y3 := hid9 (step_at Y2.out b2)
  have B3 := hid9 (Below.and BV.out b2)
  have X3 := hid9 (step_at X1.out b2)
  replace OV := hid9 (OV.out.below b2)
  replace ON := hid9 (ON.out.below b2)
  replace OM := hid9 (OM.out.below b2)
  clear OK RG Y2 BV X1 b2
  cases h3 : inB id 0 ((k : Int) - 1)
  ·have FF : Hid (nnB id (k : Int) = false) := by show _ = _; unfold nnB; rw [h3]; simp
   go_upto_region 5 with fail
   have TH2 : Hid (V2.there w.heap.size 0 (List.toArray ([.int .i64 0, .int .i64 0, .int .i64 0, .int .i64 0, .int .i64 0, .slice none 0 0, .bool false, .slice none 0 0, .slice none 0 0, .slice none 0 0, .slice none 0 0, .slice none 0 0, .int .i64 0, .slice none 0 0, .slice none 0 0, .slice none 0 0, .int .i64 0, .bool false, .slice none 0 0, .slice none 0 0, .slice none 0 0, .slice none 0 0, .slice none 0 0] : List Value)).size) := there_of Y3.out rfl
   have GC : Chg (fun g => g = w.heap.size) V2 (V2.setCells w.heap.size 0 ([.int .i64 0, .int .i64 0, .int .i64 0, .int .i64 0, .int .i64 0, .slice none 0 0, .bool false, .slice none 0 0, .slice none 0 0, .slice none 0 0, .slice none 0 0, .slice none 0 0, .int .i64 0, .slice none 0 0, .slice none 0 0, .slice none 0 0, .int .i64 0, .bool false, .slice none 0 0, .slice none 0 0, .slice none 0 0, .slice none 0 0, .slice none 0 0] : List Value)) := Chg.setCells (F := fun g => g = w.heap.size) (g := w.heap.size) (fun _ => rfl) _ 0 V2 (Chg.refl _ _)
   have XF : Hid ((V2.setCells w.heap.size 0 ([.int .i64 0, .int .i64 0, .int .i64 0, .int .i64 0, .int .i64 0, .slice none 0 0, .bool false, .slice none 0 0, .slice none 0 0, .slice none 0 0, .slice none 0 0, .slice none 0 0, .int .i64 0, .slice none 0 0, .slice none 0 0, .slice none 0 0, .int .i64 0, .bool false, .slice none 0 0, .slice none 0 0, .slice none 0 0, .slice none 0 0, .slice none 0 0] : List Value)).heap[w.heap.size]? = some (.cells (List.toArray ([.int .i64 0, .int .i64 0, .int .i64 0, .int .i64 0, .int .i64 0, .slice none 0 0, .bool false, .slice none 0 0, .slice none 0 0, .slice none 0 0, .slice none 0 0, .slice none 0 0, .int .i64 0, .slice none 0 0, .slice none 0 0, .slice none 0 0, .int .i64 0, .bool false, .slice none 0 0, .slice none 0 0, .slice none 0 0, .slice none 0 0, .slice none 0 0] : List Value)) 48 (0, 0))) := setAll_at Y3.out _ rfl
   have HM2 : Hid ((Try.prog.info? 48).map (·.size) = some (List.toArray ([.int .i64 0, .int .i64 0, .int .i64 0, .int .i64 0, .int .i64 0, .slice none 0 0, .bool false, .slice none 0 0, .slice none 0 0, .slice none 0 0, .slice none 0 0, .slice none 0 0, .int .i64 0, .slice none 0 0, .slice none 0 0, .slice none 0 0, .int .i64 0, .bool false, .slice none 0 0, .slice none 0 0, .slice none 0 0, .slice none 0 0, .slice none 0 0] : List Value)).size) := (show (Try.prog.info? 48).map (·.size) = some 23 by kernel_rfl)
   have AL2 : Hid ((List.toArray ([.int .i64 0, .int .i64 0, .int .i64 0, .int .i64 0, .int .i64 0, .slice none 0 0, .bool false, .slice none 0 0, .slice none 0 0, .slice none 0 0, .slice none 0 0, .slice none 0 0, .int .i64 0, .slice none 0 0, .slice none 0 0, .slice none 0 0, .int .i64 0, .bool false, .slice none 0 0, .slice none 0 0, .slice none 0 0, .slice none 0 0, .slice none 0 0] : List Value)).all (·.oneCell') = true) := by show _ = _; simp [Value.oneCell']
   have FIN : Hid (∃ K : NodV, Value.agg (List.toArray ([.int .i64 0, .int .i64 0, .int .i64 0, .int .i64 0, .int .i64 0, .slice none 0 0, .bool false, .slice none 0 0, .slice none 0 0, .slice none 0 0, .slice none 0 0, .slice none 0 0, .int .i64 0, .slice none 0 0, .slice none 0 0, .slice none 0 0, .int .i64 0, .bool false, .slice none 0 0, .slice none 0 0, .slice none 0 0, .slice none 0 0, .slice none 0 0] : List Value)) = K.val ∧ (newV false id).like K ∧ NodF 1 (V2.setCells w.heap.size 0 ([.int .i64 0, .int .i64 0, .int .i64 0, .int .i64 0, .int .i64 0, .slice none 0 0, .bool false, .slice none 0 0, .slice none 0 0, .slice none 0 0, .slice none 0 0, .slice none 0 0, .int .i64 0, .slice none 0 0, .slice none 0 0, .slice none 0 0, .int .i64 0, .bool false, .slice none 0 0, .slice none 0 0, .slice none 0 0, .slice none 0 0, .slice none 0 0] : List Value)) (fun g => w.heap.size ≤ g) K (newD false k) ∧ Below w.heap.size w (V2.setCells w.heap.size 0 ([.int .i64 0, .int .i64 0, .int .i64 0, .int .i64 0, .int .i64 0, .slice none 0 0, .bool false, .slice none 0 0, .slice none 0 0, .slice none 0 0, .slice none 0 0, .slice none 0 0, .int .i64 0, .slice none 0 0, .slice none 0 0, .slice none 0 0, .int .i64 0, .bool false, .slice none 0 0, .slice none 0 0, .slice none 0 0, .slice none 0 0, .slice none 0 0] : List Value))) := ⟨newV false id, rfl, NodV.like.refl _, ⟨OwnS.none _ _ _ _, nM_own false 0 _ _, OwnS.none _ _ _ _, OwnS.none _ _ _ _, OwnS.none _ _ _ _, nM_own false 0 _ _⟩, B3.out.trans (GC.below (fun g _ hg => by omega) B3.out.size)⟩
   clear GC B3 Y3
   go_wp2_with (refine wpList_store_mid rfl 48 _ _ rfl w.heap.size 0 (List.toArray ([.int .i64 0, .int .i64 0, .int .i64 0, .int .i64 0, .int .i64 0, .slice none 0 0, .bool false, .slice none 0 0, .slice none 0 0, .slice none 0 0, .slice none 0 0, .slice none 0 0, .int .i64 0, .slice none 0 0, .slice none 0 0, .slice none 0 0, .int .i64 0, .bool false, .slice none 0 0, .slice none 0 0, .slice none 0 0, .slice none 0 0, .slice none 0 0] : List Value)) rfl rfl TH2.out HM2.out AL2.out ?_)
   generalize (V2.setCells w.heap.size 0 ([.int .i64 0, .int .i64 0, .int .i64 0, .int .i64 0, .int .i64 0, .slice none 0 0, .bool false, .slice none 0 0, .slice none 0 0, .slice none 0 0, .slice none 0 0, .slice none 0 0, .int .i64 0, .slice none 0 0, .slice none 0 0, .slice none 0 0, .int .i64 0, .bool false, .slice none 0 0, .slice none 0 0, .slice none 0 0, .slice none 0 0, .slice none 0 0] : List Value)) = WF at *
   exact ⟨rfl, _, results_cell_two Try.results10 _ WF w.heap.size 48 _ (0, 0) _ rfl XF.out Try.underlying48 rfl HM2.out, (by rw [FF.out]; obtain ⟨K, e, r⟩ := FIN.out; exact ⟨K, by rw [← e]; rfl, r⟩)⟩
  ·have FF : Hid (nnB id (k : Int) = true) := by show _ = _; unfold nnB; rw [h3, H1.out]; rfl
   have RG : Hid (V2.rangeAt gB 0 ns) := by have := range_of X3.out; rw [List.toList_toArray] at this; exact this
   have TH2 : Hid (V2.there w.heap.size 0 ns.toArray.size) := there_of Y3.out (show 23 = ns.toArray.size by rw [List.size_toArray, LE.out])
   have GC : Chg (fun g => g = w.heap.size) V2 (V2.setCells w.heap.size 0 ns) := Chg.setCells (F := fun g => g = w.heap.size) (g := w.heap.size) (fun _ => rfl) ns 0 V2 (Chg.refl _ _)
   have XF : Hid ((V2.setCells w.heap.size 0 ns).heap[w.heap.size]? = some (.cells ns.toArray 48 (0, 0))) := setAll_at Y3.out ns (by rw [LE.out]; rfl)
   have HM2 : Hid ((Try.prog.info? 48).map (·.size) = some ns.toArray.size) := by show _ = _; rw [List.size_toArray]; exact HM1.out
   have FIN : Hid (∃ K : NodV, Value.agg ns.toArray = K.val ∧ (newV true id).like K ∧ NodF 1 (V2.setCells w.heap.size 0 ns) (fun g => w.heap.size ≤ g) K (newD true k) ∧ Below w.heap.size w (V2.setCells w.heap.size 0 ns)) := ⟨KV, KVV.out, LK.out, AT.out _ (OV.out.chg GC (fun g _ _ e => by have := vg.out; omega)) (ON.out.chg GC (fun g hg e => by have := (ON.out.lt g hg).1; omega)) (OM.out.chg GC (fun g _ _ e => by have := vg.out; omega)), B3.out.trans (GC.below (fun g _ hg => by omega) B3.out.size)⟩
   clear GC B3 Y3 X3 OV ON OM AT
   go_wp2_with (first | (refine wpList_load_mid rfl 48 _ rfl gB 0 rfl ns _ RG.out Try.underlying48 rfl HM1.out ?_) | (refine wpList_store_mid rfl 48 _ _ rfl w.heap.size 0 ns.toArray rfl rfl TH2.out HM2.out AL.out ?_))
   generalize V2.setCells w.heap.size 0 ns = WF at *
   exact ⟨rfl, _, results_cell_two Try.results10 _ WF w.heap.size 48 ns.toArray (0, 0) _ rfl XF.out Try.underlying48 rfl HM2.out, (by rw [FF.out]; obtain ⟨K, e, r⟩ := FIN.out; exact ⟨K, by rw [← e]; rfl, r⟩)⟩

theorem specNodeNew_out (id size : Int) (w : World) (h1 : inB size 1 5 = false) :
  Calls Try.prog 10 #[.int .i64 id, .int .i64 size] w fun e w' => ∃ K : NodV, e = .returned (.tuple #[K.val, .bool false]) ∧ (newV false id).like K ∧ NodF 1 w' (fun g => w.heap.size ≤ g) K (newD false size.toNat) ∧ MkN 1 w' w.heap.size w'.heap.size K (newD false size.toNat) ∧ Below w.heap.size w w' := by
 have B1 : Hid (Below w.heap.size w (w.alloc (.cells #[.int .i64 0, .int .i64 0, .int .i64 0, .int .i64 0, .int .i64 0, .slice none 0 0, .bool false, .slice none 0 0, .slice none 0 0, .slice none 0 0, .slice none 0 0, .slice none 0 0, .int .i64 0, .slice none 0 0, .slice none 0 0, .slice none 0 0, .int .i64 0, .bool false, .slice none 0 0, .slice none 0 0, .slice none 0 0, .slice none 0 0, .slice none 0 0] 48))) := bel_nw _ _
 have zW : Hid (w.heap.size + 1 ≤ (w.alloc (.cells #[.int .i64 0, .int .i64 0, .int .i64 0, .int .i64 0, .int .i64 0, .slice none 0 0, .bool false, .slice none 0 0, .slice none 0 0, .slice none 0 0, .slice none 0 0, .slice none 0 0, .int .i64 0, .slice none 0 0, .slice none 0 0, .slice none 0 0, .int .i64 0, .bool false, .slice none 0 0, .slice none 0 0, .slice none 0 0, .slice none 0 0, .slice none 0 0] 48)).heap.size) := by show _ ≤ _; simp
 have Y1 : Hid ((w.alloc (.cells #[.int .i64 0, .int .i64 0, .int .i64 0, .int .i64 0, .int .i64 0, .slice none 0 0, .bool false, .slice none 0 0, .slice none 0 0, .slice none 0 0, .slice none 0 0, .slice none 0 0, .int .i64 0, .slice none 0 0, .slice none 0 0, .slice none 0 0, .int .i64 0, .bool false, .slice none 0 0, .slice none 0 0, .slice none 0 0, .slice none 0 0, .slice none 0 0] 48)).heap[w.heap.size]? = some (.cells #[.int .i64 0, .int .i64 0, .int .i64 0, .int .i64 0, .int .i64 0, .slice none 0 0, .bool false, .slice none 0 0, .slice none 0 0, .slice none 0 0, .slice none 0 0, .slice none 0 0, .int .i64 0, .slice none 0 0, .slice none 0 0, .slice none 0 0, .int .i64 0, .bool false, .slice none 0 0, .slice none 0 0, .slice none 0 0, .slice none 0 0, .slice none 0 0] 48 (0, 0))) := heap_alloc_new w _
 go_enter Try.func10, Try.ntmps10
 go_wp2_with fail
 refine (l1In_any _ _ _ _).mono ?_
 rintro e w1 ⟨rfl, hw1⟩
 subst hw1
 rw [h1]
 clear h1
 go_upto_region 2 with fail
 generalize (w.alloc (.cells #[.int .i64 0, .int .i64 0, .int .i64 0, .int .i64 0, .int .i64 0, .slice none 0 0, .bool false, .slice none 0 0, .slice none 0 0, .slice none 0 0, .slice none 0 0, .slice none 0 0, .int .i64 0, .slice none 0 0, .slice none 0 0, .slice none 0 0, .int .i64 0, .bool false, .slice none 0 0, .slice none 0 0, .slice none 0 0, .slice none 0 0, .slice none 0 0] 48)) = wq at *
 have TH2 : Hid (wq.there w.heap.size 0 (List.toArray ([.int .i64 0, .int .i64 0, .int .i64 0, .int .i64 0, .int .i64 0, .slice none 0 0, .bool false, .slice none 0 0, .slice none 0 0, .slice none 0 0, .slice none 0 0, .slice none 0 0, .int .i64 0, .slice none 0 0, .slice none 0 0, .slice none 0 0, .int .i64 0, .bool false, .slice none 0 0, .slice none 0 0, .slice none 0 0, .slice none 0 0, .slice none 0 0] : List Value)).size) := there_of Y1.out rfl
 have GC : Chg (fun g => g = w.heap.size) wq (wq.setCells w.heap.size 0 ([.int .i64 0, .int .i64 0, .int .i64 0, .int .i64 0, .int .i64 0, .slice none 0 0, .bool false, .slice none 0 0, .slice none 0 0, .slice none 0 0, .slice none 0 0, .slice none 0 0, .int .i64 0, .slice none 0 0, .slice none 0 0, .slice none 0 0, .int .i64 0, .bool false, .slice none 0 0, .slice none 0 0, .slice none 0 0, .slice none 0 0, .slice none 0 0] : List Value)) := Chg.setCells (F := fun g => g = w.heap.size) (g := w.heap.size) (fun _ => rfl) _ 0 wq (Chg.refl _ _)
 have XF : Hid ((wq.setCells w.heap.size 0 ([.int .i64 0, .int .i64 0, .int .i64 0, .int .i64 0, .int .i64 0, .slice none 0 0, .bool false, .slice none 0 0, .slice none 0 0, .slice none 0 0, .slice none 0 0, .slice none 0 0, .int .i64 0, .slice none 0 0, .slice none 0 0, .slice none 0 0, .int .i64 0, .bool false, .slice none 0 0, .slice none 0 0, .slice none 0 0, .slice none 0 0, .slice none 0 0] : List Value)).heap[w.heap.size]? = some (.cells (List.toArray ([.int .i64 0, .int .i64 0, .int .i64 0, .int .i64 0, .int .i64 0, .slice none 0 0, .bool false, .slice none 0 0, .slice none 0 0, .slice none 0 0, .slice none 0 0, .slice none 0 0, .int .i64 0, .slice none 0 0, .slice none 0 0, .slice none 0 0, .int .i64 0, .bool false, .slice none 0 0, .slice none 0 0, .slice none 0 0, .slice none 0 0, .slice none 0 0] : List Value)) 48 (0, 0))) := setAll_at Y1.out _ rfl
 have HM2 : Hid ((Try.prog.info? 48).map (·.size) = some (List.toArray ([.int .i64 0, .int .i64 0, .int .i64 0, .int .i64 0, .int .i64 0, .slice none 0 0, .bool false, .slice none 0 0, .slice none 0 0, .slice none 0 0, .slice none 0 0, .slice none 0 0, .int .i64 0, .slice none 0 0, .slice none 0 0, .slice none 0 0, .int .i64 0, .bool false, .slice none 0 0, .slice none 0 0, .slice none 0 0, .slice none 0 0, .slice none 0 0] : List Value)).size) := (show (Try.prog.info? 48).map (·.size) = some 23 by kernel_rfl)
 have AL : Hid ((List.toArray ([.int .i64 0, .int .i64 0, .int .i64 0, .int .i64 0, .int .i64 0, .slice none 0 0, .bool false, .slice none 0 0, .slice none 0 0, .slice none 0 0, .slice none 0 0, .slice none 0 0, .int .i64 0, .slice none 0 0, .slice none 0 0, .slice none 0 0, .int .i64 0, .bool false, .slice none 0 0, .slice none 0 0, .slice none 0 0, .slice none 0 0, .slice none 0 0] : List Value)).all (·.oneCell') = true) := by show _ = _; simp [Value.oneCell']
 have hzf := GC.size
 have FIN : Hid (∃ K : NodV, Value.agg (List.toArray ([.int .i64 0, .int .i64 0, .int .i64 0, .int .i64 0, .int .i64 0, .slice none 0 0, .bool false, .slice none 0 0, .slice none 0 0, .slice none 0 0, .slice none 0 0, .slice none 0 0, .int .i64 0, .slice none 0 0, .slice none 0 0, .slice none 0 0, .int .i64 0, .bool false, .slice none 0 0, .slice none 0 0, .slice none 0 0, .slice none 0 0, .slice none 0 0] : List Value)) = K.val ∧ (newV false id).like K ∧ NodF 1 (wq.setCells w.heap.size 0 ([.int .i64 0, .int .i64 0, .int .i64 0, .int .i64 0, .int .i64 0, .slice none 0 0, .bool false, .slice none 0 0, .slice none 0 0, .slice none 0 0, .slice none 0 0, .slice none 0 0, .int .i64 0, .slice none 0 0, .slice none 0 0, .slice none 0 0, .int .i64 0, .bool false, .slice none 0 0, .slice none 0 0, .slice none 0 0, .slice none 0 0, .slice none 0 0] : List Value)) (fun g => w.heap.size ≤ g) K (newD false size.toNat) ∧ MkN 1 (wq.setCells w.heap.size 0 ([.int .i64 0, .int .i64 0, .int .i64 0, .int .i64 0, .int .i64 0, .slice none 0 0, .bool false, .slice none 0 0, .slice none 0 0, .slice none 0 0, .slice none 0 0, .slice none 0 0, .int .i64 0, .slice none 0 0, .slice none 0 0, .slice none 0 0, .int .i64 0, .bool false, .slice none 0 0, .slice none 0 0, .slice none 0 0, .slice none 0 0, .slice none 0 0] : List Value)) w.heap.size (wq.setCells w.heap.size 0 ([.int .i64 0, .int .i64 0, .int .i64 0, .int .i64 0, .int .i64 0, .slice none 0 0, .bool false, .slice none 0 0, .slice none 0 0, .slice none 0 0, .slice none 0 0, .slice none 0 0, .int .i64 0, .slice none 0 0, .slice none 0 0, .slice none 0 0, .int .i64 0, .bool false, .slice none 0 0, .slice none 0 0, .slice none 0 0, .slice none 0 0, .slice none 0 0] : List Value)).heap.size K (newD false size.toNat) ∧ Below w.heap.size w (wq.setCells w.heap.size 0 ([.int .i64 0, .int .i64 0, .int .i64 0, .int .i64 0, .int .i64 0, .slice none 0 0, .bool false, .slice none 0 0, .slice none 0 0, .slice none 0 0, .slice none 0 0, .slice none 0 0, .int .i64 0, .slice none 0 0, .slice none 0 0, .slice none 0 0, .int .i64 0, .bool false, .slice none 0 0, .slice none 0 0, .slice none 0 0, .slice none 0 0, .slice none 0 0] : List Value))) :=
  ⟨newV false id, rfl, NodV.like.refl _, ⟨OwnS.none _ _ _ _, nM_own false 0 _ _, OwnS.none _ _ _ _, OwnS.none _ _ _ _, OwnS.none _ _ _ _, nM_own false 0 _ _⟩, (zero_dh _ _ _ _ _ (by have := zW.out; omega) (Nat.le_refl _)).own, B1.out.trans (GC.below (fun g _ hg => by omega) B1.out.size)⟩
 clear GC B1 Y1
 go_wp2_with (refine wpList_store_mid rfl 48 _ _ rfl w.heap.size 0 (List.toArray ([.int .i64 0, .int .i64 0, .int .i64 0, .int .i64 0, .int .i64 0, .slice none 0 0, .bool false, .slice none 0 0, .slice none 0 0, .slice none 0 0, .slice none 0 0, .slice none 0 0, .int .i64 0, .slice none 0 0, .slice none 0 0, .slice none 0 0, .int .i64 0, .bool false, .slice none 0 0, .slice none 0 0, .slice none 0 0, .slice none 0 0, .slice none 0 0] : List Value)) rfl rfl TH2.out HM2.out AL.out ?_)
 generalize (wq.setCells w.heap.size 0 ([.int .i64 0, .int .i64 0, .int .i64 0, .int .i64 0, .int .i64 0, .slice none 0 0, .bool false, .slice none 0 0, .slice none 0 0, .slice none 0 0, .slice none 0 0, .slice none 0 0, .int .i64 0, .slice none 0 0, .slice none 0 0, .slice none 0 0, .int .i64 0, .bool false, .slice none 0 0, .slice none 0 0, .slice none 0 0, .slice none 0 0, .slice none 0 0] : List Value)) = WF at *
 exact ⟨rfl, _, results_cell_two Try.results10 _ WF w.heap.size 48 _ (0, 0) _ rfl XF.out Try.underlying48 rfl HM2.out, (by obtain ⟨K, e, r⟩ := FIN.out; exact ⟨K, by rw [← e]; rfl, r⟩)⟩

theorem specNodeNew_any (id size : Int) (w : World) :
  Calls Try.prog 10 #[.int .i64 id, .int .i64 size] w fun e w' => ∃ K : NodV, e = .returned (.tuple #[K.val, .bool (nnB id size)]) ∧ (newV (nnB id size) id).like K ∧ NodF 1 w' (fun g => w.heap.size ≤ g) K (newD (nnB id size) size.toNat) ∧ Below w.heap.size w w' := by
 cases h1 : inB size 1 5
 ·have hn : nnB id size = false := by unfold nnB; rw [h1]; rfl
  rw [hn]
  exact (specNodeNew_out id size w h1).mono (fun e w' ⟨K, a, b, c, d, f⟩ => ⟨K, a, b, c, f⟩)
 ·have hk := inB_iff.1 h1
  obtain ⟨k, rfl⟩ := Int.eq_ofNat_of_zero_le (show 0 ≤ size by omega)
  rw [Int.toNat_natCast]
  exact specNodeNew_in id k w h1
end
end Go.Proofs.Ytdcladffnjikkaa
