/-
  A world in memory of its own, its lists by sets of blocks: so they can grow.
  What is sent: as many as there is room for, behind the net.
-/
import Derived.Test.YtkcaelfkcepdkaaGreatOfSend35
import Derived.Test.YtkcaelfkcepdkaaGreatOfSend44
namespace Go.Proofs.YtkcaelfkcepdkaaGreat
set_option maxRecDepth 100000
set_option maxHeartbeats 8000000
section
open Go.RowKit

def FrmU {ε : Type} (R : World → (Nat → Prop) → ε → Prop) : Prop := ∀ (w w' : World) (F P : Nat → Prop) (e : ε), R w F e → Chg P w w' → (∀ g, F g → ¬ P g) → R w' F e
def nodU (n : Nat) (w : World) (F : Nat → Prop) (e : NodE) : Prop := NodA n w F e.1 e.2
def rpcU (n : Nat) (w : World) (F : Nat → Prop) (e : RpcE) : Prop := RpcA n w F e.1 e.2
def nodV (n : Nat) (w : World) (F : Nat → Prop) (e : NodE) : Prop := NodF n w F e.1 e.2
def rpcX (n : Nat) (w : World) (F : Nat → Prop) (e : RpcE) : Prop := RpcF n w F e.1 e.2
theorem nodU_k (n : Nat) : FrmU (nodU n) := fun _ _ _ _ _ h hc hP => NodA.chg h hc hP
theorem rpcU_k (n : Nat) : FrmU (rpcU n) := fun _ _ _ _ _ h hc hP => RpcA.chg h hc hP
theorem nodV_k (n : Nat) : FrmU (nodV n) := fun _ _ _ _ _ h hc hP => NodF.chg h hc hP
theorem rpcX_k (n : Nat) : FrmU (rpcX n) := fun _ _ _ _ _ h hc hP => RpcF.chg h hc hP
def LsU {ε : Type} (cs : ε → List Value) (R : World → (Nat → Prop) → ε → Prop) (d : ε) (ty K : Nat) (w : World) (F : Nat → Prop) (v : Value) (es : List ε) : Prop :=
 OwnS w F ty K v es.length (es.map cs).flatten ∧ ∃ G : Nat → Nat → Prop, (∀ i, i < es.length → R w (G i) (es.getD i d)) ∧ (∀ i j g, i < j → j < es.length → G i g → ¬ G j g) ∧ ∀ i g, i < es.length → G i g → F g ∧ ¬ wrB v g
section
variable {ε : Type} {cs : ε → List Value} {R : World → (Nat → Prop) → ε → Prop} {d : ε} {ty K : Nat} {w w' : World} {F : Nat → Prop} {v : Value} {es : List ε}
theorem LsU.chg {P : Nat → Prop} (hR : FrmU R) (h : LsU cs R d ty K w F v es) (hc : Chg P w w') (hP : ∀ g, F g → ¬ P g) : LsU cs R d ty K w' F v es := by
 obtain ⟨h1, G, h2, h3, h4⟩ := h
 exact ⟨h1.chg hc hP, G, fun i hi => hR _ _ _ _ _ (h2 i hi) hc (fun g hg => hP g (h4 i g hi hg).1), h3, h4⟩
theorem LsU.mono {F' : Nat → Prop} (h : LsU cs R d ty K w F v es) (hF : ∀ g, F g → F' g) : LsU cs R d ty K w F' v es := by
 obtain ⟨h1, G, h2, h3, h4⟩ := h
 exact ⟨h1.mono hF, G, h2, h3, fun i g hi hg => ⟨hF g (h4 i g hi hg).1, (h4 i g hi hg).2⟩⟩
theorem LsU.at {At : World → ε → Prop} (hA : ∀ w F e, R w F e → At w e) (h : LsU cs R d ty K w F v es) : LsAt cs At w v es := by
 obtain ⟨h1, G, h2, _⟩ := h
 refine ⟨h1.1.rowF.row, fun e he => ?_⟩
 obtain ⟨i, hi, rfl⟩ := List.getElem_of_mem he
 have := h2 i hi
 simp only [List.getD, List.getElem?_eq_getElem hi, Option.getD_some] at this
 exact hA _ _ _ this
theorem LsU.of_I {RI : World → Nat → Nat → ε → Prop} {lo hi : Nat} (hRI : ∀ w a b e, RI w a b e → R w (fun g => a ≤ g ∧ g < b) e) (h : LsI cs RI d ty K w lo hi v es) : LsU cs R d ty K w (fun g => lo ≤ g ∧ g < hi) v es := by
 obtain ⟨h1, h2, h3, h4, a, b, h5, h6⟩ := h
 refine ⟨⟨h1.mono (Nat.zero_le _), fun g hg => ⟨(h1.lt g hg).1, h2 g hg⟩⟩, fun i g => a i ≤ g ∧ g < b i, fun i hi => hRI _ _ _ _ (h5 i hi).2.2.2.1, fun i j g hij hj hg hg' => by have := h6 i j hij hj; omega, fun i g hi hg => ?_⟩
 obtain ⟨p1, p2, p3, p4, p5⟩ := h5 i hi
 exact ⟨⟨by omega, by omega⟩, p5 g hg.1 hg.2⟩
theorem LsU.snoc {w4 w5 : World} {H : Nat → Prop} {v' : Value} {f : ε} (hR : FrmU R) (h : LsU cs R d ty K w F v es) (hF : ∀ g, F g → g < w.heap.size) (hb : Below w.heap.size w w4) (hf : R w4 H f) (hH : ∀ g, H g → w.heap.size ≤ g ∧ g < w4.heap.size) (ap : AppTo w4 0 ty K v (es.length + 1) ((es.map cs).flatten ++ cs f) v' w5) : LsU cs R d ty K w5 (fun g => F g ∨ w.heap.size ≤ g ∧ g < w5.heap.size) v' (es ++ [f]) := by
 obtain ⟨k1, G, k2, k3, k4⟩ := h
 obtain ⟨a1, a2, a3, a4⟩ := ap
 have hs := hb.size
 have hs2 := a2.size
 have hv : ∀ g, wrB v g → g < w.heap.size := fun g hg => hF g (k1.2 g hg)
 refine ⟨⟨by simpa using a1, fun g hg => ?_⟩, fun i g => if i < es.length then G i g else H g, fun i hi => ?_, fun i j g hij hj hg hg' => ?_, fun i g hi hg => ?_⟩
 ·rcases a4 g hg with e | e
  ·exact .inl (k1.2 g e)
  ·exact .inr ⟨by omega, (a1.lt g hg).2⟩
 ·by_cases hl : i < es.length
  ·simp only [if_pos hl]
   have q := hR _ _ _ _ _ (hR _ _ _ _ _ (k2 i hl) (Chg.of_below (F := fun _ => False) hb) (fun _ _ e => e)) a2 (fun g hg e => (k4 i g hl hg).2 e)
   simp only [List.getD] at q ⊢
   rw [List.getElem?_append_left hl]
   exact q
  ·have e : i = es.length := by simp at hi; omega
   subst e
   simp only [if_neg hl]
   have q := hR _ _ _ _ _ hf a2 (fun g hg e => by have := hv g e; have := hH g hg; omega)
   simp only [List.getD]
   rw [List.getElem?_append_right (Nat.le_refl _), Nat.sub_self]
   exact q
 ·have hi : i < es.length := by simp at hj; omega
  simp only [if_pos hi] at hg
  by_cases hl : j < es.length
  ·simp only [if_pos hl] at hg'
   exact k3 i j g hij hl hg hg'
  ·simp only [if_neg hl] at hg'
   have := hF g (k4 i g hi hg).1
   have := hH g hg'
   omega
 ·by_cases hl : i < es.length
  ·simp only [if_pos hl] at hg
   refine ⟨.inl (k4 i g hl hg).1, fun e => ?_⟩
   rcases a4 g e with e | e
   ·exact (k4 i g hl hg).2 e
   ·have := hF g (k4 i g hl hg).1
    omega
  ·simp only [if_neg hl] at hg
   have q := hH g hg
   refine ⟨.inr ⟨q.1, by omega⟩, fun e => ?_⟩
   rcases a4 g e with e | e
   ·have := hv g e
    omega
   ·omega
end
def WrS (RN : World → (Nat → Prop) → NodE → Prop) (RR : World → (Nat → Prop) → RpcE → Prop) (w : World) (F : Nat → Prop) (W : WrV) (D : Wd) : Prop :=
 ∃ A : Nat → Nat → Prop, (∀ s t g, A s g → A t g → s = t) ∧ (∀ s g, A s g → F g) ∧ LsU nodC RN noNod 73 23 w (A 0) W.nv D.ns ∧ LsU rpcC RR noRpc 87 15 w (A 1) W.rv D.rs ∧
  OwnS w (A 2) 117 5 W.cv D.cs.length (D.cs.map cmdC).flatten ∧ OwnS w (A 3) 141 4 W.av D.ds.length (flatD D.ds) ∧ OwnS w (A 4) 121 2 W.lv D.ls.length (D.ls.map ledC).flatten
section
variable {RN : World → (Nat → Prop) → NodE → Prop} {RR : World → (Nat → Prop) → RpcE → Prop} {w w' : World} {F : Nat → Prop} {W : WrV} {D : Wd}
theorem WrS.chg {P : Nat → Prop} (hN : FrmU RN) (hR : FrmU RR) (h : WrS RN RR w F W D) (hc : Chg P w w') (hP : ∀ g, F g → ¬ P g) : WrS RN RR w' F W D := by
 obtain ⟨A, h1, h2, o0, o1, o2, o3, o4⟩ := h
 exact ⟨A, h1, h2, LsU.chg hN o0 hc (fun g e => hP g (h2 _ g e)), LsU.chg hR o1 hc (fun g e => hP g (h2 _ g e)), o2.chg hc (fun g e => hP g (h2 _ g e)), o3.chg hc (fun g e => hP g (h2 _ g e)), o4.chg hc (fun g e => hP g (h2 _ g e))⟩
theorem WrS.below (hN : FrmU RN) (hR : FrmU RR) (h : WrS RN RR w F W D) (hb : Below w.heap.size w w') : WrS RN RR w' F W D := h.chg hN hR (Chg.of_below (F := fun _ => False) hb) (fun _ _ e => e)
theorem WrS.at {n : Nat} (hN : ∀ w F e, RN w F e → nodAt n w e) (hR : ∀ w F e, RR w F e → rpcAt n w e) (h : WrS RN RR w F W D) : WrAt n w W D := by
 obtain ⟨A, _, _, o0, o1, o2, o3, o4⟩ := h
 exact ⟨o0.at hN, o1.at hR, ⟨o2.1.rowF.row, fun _ _ => trivial⟩, o3.1.rowF.row, ⟨o4.1.rowF.row, fun _ _ => trivial⟩⟩
theorem WrS.snoc {w4 w5 : World} {H : Nat → Prop} {v' : Value} {f : RpcE} (hN : FrmU RN) (hR : FrmU RR) (h : WrS RN RR w F W D) (hF : ∀ g, F g → g < w.heap.size) (hb : Below w.heap.size w w4) (hf : RR w4 H f) (hH : ∀ g, H g → w.heap.size ≤ g ∧ g < w4.heap.size)
  (ap : AppTo w4 0 87 15 W.rv (D.rs.length + 1) ((D.rs.map rpcC).flatten ++ rpcC f) v' w5) : WrS RN RR w5 (fun g => F g ∨ w.heap.size ≤ g ∧ g < w5.heap.size) ⟨W.sz, W.nv, v', W.cv, W.av, W.lv⟩ ⟨D.ns, D.rs ++ [f], D.cs, D.ds, D.ls⟩ := by
 obtain ⟨A, h1, h2, o0, o1, o2, o3, o4⟩ := h
 have a2 := ap.2.1
 have hs := hb.size
 have nb : ∀ s, s ≠ 1 → ∀ g, A s g → ¬ wrB W.rv g := fun s hs g hg e => hs (h1 s 1 g hg (o1.1.2 g e))
 have cb := Chg.of_below (F := fun _ => False) hb
 refine ⟨fun s g => A s g ∨ s = 1 ∧ w.heap.size ≤ g ∧ g < w5.heap.size, fun s t g a b => ?_, fun s g a => ?_, ?_, ?_, ?_, ?_, ?_⟩
 ·rcases a with a | a <;> rcases b with b | b
  ·exact h1 s t g a b
  ·have := hF g (h2 s g a); omega
  ·have := hF g (h2 t g b); omega
  ·rw [a.1, b.1]
 ·rcases a with a | a
  ·exact .inl (h2 s g a)
  ·exact .inr a.2
 ·exact ((o0.chg hN cb (fun _ _ e => e)).chg hN a2 (nb 0 (by omega))).mono (fun g e => .inl e)
 ·exact (o1.snoc hR (fun g e => hF g (h2 1 g e)) hb hf hH ap).mono (fun g e => e.elim .inl (fun e => .inr ⟨rfl, e⟩))
 ·exact ((o2.chg cb (fun _ _ e => e)).chg a2 (nb 2 (by omega))).mono (fun g e => .inl e)
 ·exact ((o3.chg cb (fun _ _ e => e)).chg a2 (nb 3 (by omega))).mono (fun g e => .inl e)
 ·exact ((o4.chg cb (fun _ _ e => e)).chg a2 (nb 4 (by omega))).mono (fun g e => .inl e)
end
theorem WrI.s {n : Nat} {w : World} {lo hi : Nat} {W : WrV} {D : Wd} (h : WrI n w lo hi W D) : WrS (nodU n) (rpcU n) w (fun g => lo ≤ g ∧ g < hi) W D := by
 obtain ⟨a, b, h1, h2, h3, o0, o1, o2, o3, o4⟩ := h
 refine ⟨fun s g => s < 5 ∧ a s ≤ g ∧ g < b s, fun s t g x y => ?_, fun s g x => ?_, ?_, ?_, ?_, ?_, ?_⟩
 ·rcases Nat.decEq s t with e | e
  ·have := h2 s t x.1 y.1 e; omega
  ·exact e
 ·have := h1 s x.1; omega
 ·exact (LsU.of_I (R := nodU n) (fun _ _ _ _ h => h) o0).mono (fun g e => ⟨by omega, e⟩)
 ·exact (LsU.of_I (R := rpcU n) (fun _ _ _ _ h => h) o1).mono (fun g e => ⟨by omega, e⟩)
 ·exact ⟨o2.1.mono (Nat.zero_le _), fun g e => ⟨by omega, (o2.1.lt g e).1, o2.2.1 g e⟩⟩
 ·exact ⟨o3.1.mono (Nat.zero_le _), fun g e => ⟨by omega, (o3.1.lt g e).1, o3.2 g e⟩⟩
 ·exact ⟨o4.1.mono (Nat.zero_le _), fun g e => ⟨by omega, (o4.1.lt g e).1, o4.2.1 g e⟩⟩
theorem WrW.s {n : Nat} {w : World} {lo hi : Nat} {W : WrV} {D : Wd} (h : WrW n w lo hi W D) : WrS (nodV n) (rpcX n) w (fun g => lo ≤ g ∧ g < hi) W D := by
 obtain ⟨a, b, h1, h2, h3, o0, o1, o2, o3, o4⟩ := h
 refine ⟨fun s g => s < 5 ∧ a s ≤ g ∧ g < b s, fun s t g x y => ?_, fun s g x => ?_, ?_, ?_, ?_, ?_, ?_⟩
 ·rcases Nat.decEq s t with e | e
  ·have := h2 s t x.1 y.1 e; omega
  ·exact e
 ·have := h1 s x.1; omega
 ·exact (LsU.of_I (R := nodV n) (fun _ _ _ _ h => h) o0).mono (fun g e => ⟨by omega, e⟩)
 ·exact (LsU.of_I (R := rpcX n) (fun _ _ _ _ h => h) o1).mono (fun g e => ⟨by omega, e⟩)
 ·exact ⟨o2.1.mono (Nat.zero_le _), fun g e => ⟨by omega, (o2.1.lt g e).1, o2.2.1 g e⟩⟩
 ·exact ⟨o3.1.mono (Nat.zero_le _), fun g e => ⟨by omega, (o3.1.lt g e).1, o3.2 g e⟩⟩
 ·exact ⟨o4.1.mono (Nat.zero_le _), fun g e => ⟨by omega, (o4.1.lt g e).1, o4.2.1 g e⟩⟩
theorem nodU_at (n : Nat) : ∀ w F e, nodU n w F e → nodAt n w e := fun _ _ _ h => NodA.at h
theorem rpcU_at (n : Nat) : ∀ w F e, rpcU n w F e → rpcAt n w e := fun _ _ _ h => RpcA.at h
theorem nodV_at (n : Nat) : ∀ w F e, nodV n w F e → nodAt n w e := fun _ _ _ h => NodF.at h
theorem rpcX_at (n : Nat) : ∀ w F e, rpcX n w F e → rpcAt n w e := fun _ _ _ h => RpcF.at h

theorem LsU.markN {n : Nat} {w : World} {F : Nat → Prop} {v : Value} {es : List NodE} (h : LsU nodC (nodU (n + 1)) noNod 73 23 w F v es) (k : Int) (hk0 : 0 ≤ k) (hk1 : k + (sumE (nodK (n + 1)) es es.length : Nat) ≤ 67108864) :
  Calls Tryz.prog 41 #[v, .int .i64 k] w fun e w' => e = .returned (.int .i64 (k + (sumE (nodK (n + 1)) es es.length : Nat))) ∧ LsU nodC (nodU (n + 1)) noNod 73 23 w' F v (nodMs (n + 1) k es) ∧ Chg F w w' := by
 obtain ⟨h1, G, h2, h3, h4⟩ := h
 refine (markNodeS_any n v es G k w ⟨h1.1, h2, h3, fun i g hi hg => (h4 i g hi hg).2⟩ hk0 hk1).mono ?_
 rintro e w' ⟨r, -, q, c⟩
 have hl : (nodMs (n + 1) k es).length = es.length := by simp [nodMs]
 refine ⟨r, ⟨⟨q.1, h1.2⟩, G, fun i hi => q.2.1 i hi, fun i j g hij hj => h3 i j g hij (by omega), fun i g hi => h4 i g (by omega)⟩, c.mono (fun g _ hg => ?_)⟩
 rcases hg with hg | ⟨i, hi, hg⟩
 ·exact h1.2 g hg
 ·exact (h4 i g hi hg).1
theorem LsU.markR {n : Nat} {w : World} {F : Nat → Prop} {v : Value} {es : List RpcE} (h : LsU rpcC (rpcU (n + 1)) noRpc 87 15 w F v es) (k : Int) (hk0 : 0 ≤ k) (hk1 : k + (sumE (rpcK (n + 1)) es es.length : Nat) ≤ 67108864) :
  Calls Tryz.prog 14 #[v, .int .i64 k] w fun e w' => e = .returned (.int .i64 (k + (sumE (rpcK (n + 1)) es es.length : Nat))) ∧ LsU rpcC (rpcU (n + 1)) noRpc 87 15 w' F v (rpcMs (n + 1) k es) ∧ Chg F w w' := by
 obtain ⟨h1, G, h2, h3, h4⟩ := h
 refine (markRpcS_any n v es G k w ⟨h1.1, h2, h3, fun i g hi hg => (h4 i g hi hg).2⟩ hk0 hk1).mono ?_
 rintro e w' ⟨r, -, q, c⟩
 have hl : (rpcMs (n + 1) k es).length = es.length := by simp [rpcMs]
 refine ⟨r, ⟨⟨q.1, h1.2⟩, G, fun i hi => q.2.1 i hi, fun i j g hij hj => h3 i j g hij (by omega), fun i g hi => h4 i g (by omega)⟩, c.mono (fun g _ hg => ?_)⟩
 rcases hg with hg | ⟨i, hi, hg⟩
 ·exact h1.2 g hg
 ·exact (h4 i g hi hg).1
theorem OwnS.markC {w : World} {F : Nat → Prop} {v : Value} {es : List CmdE} (h : OwnS w F 117 5 v es.length (es.map cmdC).flatten) (k : Int) (hk0 : 0 ≤ k) (hk1 : k + 5 * (es.length : Nat) ≤ 67108864) :
  Calls Tryz.prog 42 #[v, .int .i64 k] w fun e w' => e = .returned (.int .i64 (k + 5 * (es.length : Nat))) ∧ OwnS w' F 117 5 v (cmdMs k es.length).length ((cmdMs k es.length).map cmdC).flatten ∧ Chg F w w' := by
 refine (markCmdS_any v es k w h.1 hk0 hk1).mono ?_
 rintro e w' ⟨r, q, c⟩
 have hl : (cmdMs k es.length).length = es.length := by simp [cmdMs]
 exact ⟨r, ⟨by rw [hl]; exact q, h.2⟩, c.mono (fun g _ hg => h.2 g hg)⟩
theorem OwnS.markL {w : World} {F : Nat → Prop} {v : Value} {es : List LedE} (h : OwnS w F 121 2 v es.length (es.map ledC).flatten) (k : Int) (hk0 : 0 ≤ k) (hk1 : k + 2 * (es.length : Nat) ≤ 67108864) :
  Calls Tryz.prog 44 #[v, .int .i64 k] w fun e w' => e = .returned (.int .i64 (k + 2 * (es.length : Nat))) ∧ OwnS w' F 121 2 v (ledMs k es.length).length ((ledMs k es.length).map ledC).flatten ∧ Chg F w w' := by
 refine (markLeadS_any v es k w h.1 hk0 hk1).mono ?_
 rintro e w' ⟨r, q, c⟩
 have hl : (ledMs k es.length).length = es.length := by simp [ledMs]
 exact ⟨r, ⟨by rw [hl]; exact q, h.2⟩, c.mono (fun g _ hg => h.2 g hg)⟩
theorem OwnS.markD {w : World} {F : Nat → Prop} {v : Value} {l : DL} (h : OwnS w F 141 4 v l.length (flatD l)) (k : Int) (hk0 : 0 ≤ k) (hk1 : k + 4 * (l.length : Nat) ≤ 67108864) :
  Calls Tryz.prog 43 #[v, .int .i64 k] w fun e w' => e = .returned (.int .i64 (k + 4 * (l.length : Nat))) ∧ OwnS w' F 141 4 v (marksD k l.length).length (flatD (marksD k l.length)) ∧ Chg F w w' := by
 refine (markDoneS_g 0 v l k w h.1 (by omega) hk0 (by omega)).mono ?_
 rintro e w' ⟨r, q, c⟩
 exact ⟨r, ⟨by rw [marksD_length]; exact q, h.2⟩, c.mono (fun g _ hg => h.2 g hg)⟩

theorem markWorld_s (n : Nat) (W : WrV) (D : Wd) (F : Nat → Prop) (k : Int) (w : World) (h : WrS (nodU (n + 1)) (rpcU (n + 1)) w F W D) (hF : ∀ g, F g → g < w.heap.size) (hk0 : 0 ≤ k) (hk1 : wK5 (n + 1) k D ≤ 67108864) :
  Calls Tryz.prog 13 #[W.val, .int .i64 k] w fun e w' => e = .returned (.int .i64 (wK5 (n + 1) k D)) ∧ WrS (nodU (n + 1)) (rpcU (n + 1)) w' F W (wMk (n + 1) k D) ∧ Chg F w w' := by
 have e1 : wK1 (n + 1) k D = k + (sumE (nodK (n + 1)) D.ns D.ns.length : Nat) := rfl
 have e2 : wK2 (n + 1) k D = wK1 (n + 1) k D + (sumE (rpcK (n + 1)) D.rs D.rs.length : Nat) := rfl
 have e3 : wK3 (n + 1) k D = wK2 (n + 1) k D + 5 * (D.cs.length : Nat) := rfl
 have e4 : wK4 (n + 1) k D = wK3 (n + 1) k D + 4 * (D.ds.length : Nat) := rfl
 have e5 : wK5 (n + 1) k D = wK4 (n + 1) k D + 2 * (D.ls.length : Nat) := rfl
 obtain ⟨A, h1, h2, o0, o1, o2, o3, o4⟩ := h
 obtain ⟨sz, nv, rv, cv, av, lv⟩ := W
 simp only at o0 o1 o2 o3 o4
 obtain ⟨a0, q0, hz⟩ := o0.1.1.slice
 subst hz
 obtain ⟨a1, q1, hz⟩ := o1.1.1.slice
 subst hz
 obtain ⟨a2, q2, hz⟩ := o2.1.slice
 subst hz
 obtain ⟨a3, q3, hz⟩ := o3.1.slice
 subst hz
 obtain ⟨a4, q4, hz⟩ := o4.1.slice
 subst hz
 refine (markWorld_c (k1 := wK1 (n + 1) k D) (k2 := wK2 (n + 1) k D) (k3 := wK3 (n + 1) k D) (k4 := wK4 (n + 1) k D) (k5 := wK5 (n + 1) k D) (Pm := F)
  (A0 := fun u => LsU nodC (nodU (n + 1)) noNod 73 23 u (A 0) (.slice a0 D.ns.length q0) D.ns ∧ LsU rpcC (rpcU (n + 1)) noRpc 87 15 u (A 1) (.slice a1 D.rs.length q1) D.rs ∧ OwnS u (A 2) 117 5 (.slice a2 D.cs.length q2) D.cs.length (D.cs.map cmdC).flatten ∧ OwnS u (A 3) 141 4 (.slice a3 D.ds.length q3) D.ds.length (flatD D.ds) ∧ OwnS u (A 4) 121 2 (.slice a4 D.ls.length q4) D.ls.length (D.ls.map ledC).flatten)
  (A1 := fun u => LsU nodC (nodU (n + 1)) noNod 73 23 u (A 0) (.slice a0 D.ns.length q0) (nodMs (n + 1) k D.ns) ∧ LsU rpcC (rpcU (n + 1)) noRpc 87 15 u (A 1) (.slice a1 D.rs.length q1) D.rs ∧ OwnS u (A 2) 117 5 (.slice a2 D.cs.length q2) D.cs.length (D.cs.map cmdC).flatten ∧ OwnS u (A 3) 141 4 (.slice a3 D.ds.length q3) D.ds.length (flatD D.ds) ∧ OwnS u (A 4) 121 2 (.slice a4 D.ls.length q4) D.ls.length (D.ls.map ledC).flatten)
  (A2 := fun u => LsU nodC (nodU (n + 1)) noNod 73 23 u (A 0) (.slice a0 D.ns.length q0) (nodMs (n + 1) k D.ns) ∧ LsU rpcC (rpcU (n + 1)) noRpc 87 15 u (A 1) (.slice a1 D.rs.length q1) (rpcMs (n + 1) (wK1 (n + 1) k D) D.rs) ∧ OwnS u (A 2) 117 5 (.slice a2 D.cs.length q2) D.cs.length (D.cs.map cmdC).flatten ∧ OwnS u (A 3) 141 4 (.slice a3 D.ds.length q3) D.ds.length (flatD D.ds) ∧ OwnS u (A 4) 121 2 (.slice a4 D.ls.length q4) D.ls.length (D.ls.map ledC).flatten)
  (A3 := fun u => LsU nodC (nodU (n + 1)) noNod 73 23 u (A 0) (.slice a0 D.ns.length q0) (nodMs (n + 1) k D.ns) ∧ LsU rpcC (rpcU (n + 1)) noRpc 87 15 u (A 1) (.slice a1 D.rs.length q1) (rpcMs (n + 1) (wK1 (n + 1) k D) D.rs) ∧ OwnS u (A 2) 117 5 (.slice a2 D.cs.length q2) (cmdMs (wK2 (n + 1) k D) D.cs.length).length ((cmdMs (wK2 (n + 1) k D) D.cs.length).map cmdC).flatten ∧ OwnS u (A 3) 141 4 (.slice a3 D.ds.length q3) D.ds.length (flatD D.ds) ∧ OwnS u (A 4) 121 2 (.slice a4 D.ls.length q4) D.ls.length (D.ls.map ledC).flatten)
  (A4 := fun u => LsU nodC (nodU (n + 1)) noNod 73 23 u (A 0) (.slice a0 D.ns.length q0) (nodMs (n + 1) k D.ns) ∧ LsU rpcC (rpcU (n + 1)) noRpc 87 15 u (A 1) (.slice a1 D.rs.length q1) (rpcMs (n + 1) (wK1 (n + 1) k D) D.rs) ∧ OwnS u (A 2) 117 5 (.slice a2 D.cs.length q2) (cmdMs (wK2 (n + 1) k D) D.cs.length).length ((cmdMs (wK2 (n + 1) k D) D.cs.length).map cmdC).flatten ∧ OwnS u (A 3) 141 4 (.slice a3 D.ds.length q3) (marksD (wK3 (n + 1) k D) D.ds.length).length (flatD (marksD (wK3 (n + 1) k D) D.ds.length)) ∧ OwnS u (A 4) 121 2 (.slice a4 D.ls.length q4) D.ls.length (D.ls.map ledC).flatten)
  (A5 := fun u => LsU nodC (nodU (n + 1)) noNod 73 23 u (A 0) (.slice a0 D.ns.length q0) (nodMs (n + 1) k D.ns) ∧ LsU rpcC (rpcU (n + 1)) noRpc 87 15 u (A 1) (.slice a1 D.rs.length q1) (rpcMs (n + 1) (wK1 (n + 1) k D) D.rs) ∧ OwnS u (A 2) 117 5 (.slice a2 D.cs.length q2) (cmdMs (wK2 (n + 1) k D) D.cs.length).length ((cmdMs (wK2 (n + 1) k D) D.cs.length).map cmdC).flatten ∧ OwnS u (A 3) 141 4 (.slice a3 D.ds.length q3) (marksD (wK3 (n + 1) k D) D.ds.length).length (flatD (marksD (wK3 (n + 1) k D) D.ds.length)) ∧ OwnS u (A 4) 121 2 (.slice a4 D.ls.length q4) (ledMs (wK4 (n + 1) k D) D.ls.length).length ((ledMs (wK4 (n + 1) k D) D.ls.length).map ledC).flatten)
  w hF (fun u hb => ⟨o0.chg (nodU_k _) (Chg.of_below (F := fun _ => False) hb) (fun _ _ e => e), o1.chg (rpcU_k _) (Chg.of_below (F := fun _ => False) hb) (fun _ _ e => e), o2.chg (Chg.of_below (F := fun _ => False) hb) (fun _ _ e => e), o3.chg (Chg.of_below (F := fun _ => False) hb) (fun _ _ e => e), o4.chg (Chg.of_below (F := fun _ => False) hb) (fun _ _ e => e)⟩)
  (fun u ⟨p0, p1, p2, p3, p4⟩ => (p0.markN k hk0 (by omega)).mono (fun e u' ⟨r, q, c⟩ => ⟨r, ⟨q, p1.chg (rpcU_k _) c (fun g x y => absurd (h1 1 0 g x y) (by omega)), p2.chg c (fun g x y => absurd (h1 2 0 g x y) (by omega)), p3.chg c (fun g x y => absurd (h1 3 0 g x y) (by omega)), p4.chg c (fun g x y => absurd (h1 4 0 g x y) (by omega))⟩, c.mono (fun g _ hg => h2 0 g hg)⟩))
  (fun u ⟨p0, p1, p2, p3, p4⟩ => (p1.markR (wK1 (n + 1) k D) (by omega) (by omega)).mono (fun e u' ⟨r, q, c⟩ => ⟨r, ⟨p0.chg (nodU_k _) c (fun g x y => absurd (h1 0 1 g x y) (by omega)), q, p2.chg c (fun g x y => absurd (h1 2 1 g x y) (by omega)), p3.chg c (fun g x y => absurd (h1 3 1 g x y) (by omega)), p4.chg c (fun g x y => absurd (h1 4 1 g x y) (by omega))⟩, c.mono (fun g _ hg => h2 1 g hg)⟩))
  (fun u ⟨p0, p1, p2, p3, p4⟩ => (p2.markC (wK2 (n + 1) k D) (by omega) (by omega)).mono (fun e u' ⟨r, q, c⟩ => ⟨r, ⟨p0.chg (nodU_k _) c (fun g x y => absurd (h1 0 2 g x y) (by omega)), p1.chg (rpcU_k _) c (fun g x y => absurd (h1 1 2 g x y) (by omega)), q, p3.chg c (fun g x y => absurd (h1 3 2 g x y) (by omega)), p4.chg c (fun g x y => absurd (h1 4 2 g x y) (by omega))⟩, c.mono (fun g _ hg => h2 2 g hg)⟩))
  (fun u ⟨p0, p1, p2, p3, p4⟩ => (p3.markD (wK3 (n + 1) k D) (by omega) (by omega)).mono (fun e u' ⟨r, q, c⟩ => ⟨r, ⟨p0.chg (nodU_k _) c (fun g x y => absurd (h1 0 3 g x y) (by omega)), p1.chg (rpcU_k _) c (fun g x y => absurd (h1 1 3 g x y) (by omega)), p2.chg c (fun g x y => absurd (h1 2 3 g x y) (by omega)), q, p4.chg c (fun g x y => absurd (h1 4 3 g x y) (by omega))⟩, c.mono (fun g _ hg => h2 3 g hg)⟩))
  (fun u ⟨p0, p1, p2, p3, p4⟩ => (p4.markL (wK4 (n + 1) k D) (by omega) (by omega)).mono (fun e u' ⟨r, q, c⟩ => ⟨r, ⟨p0.chg (nodU_k _) c (fun g x y => absurd (h1 0 4 g x y) (by omega)), p1.chg (rpcU_k _) c (fun g x y => absurd (h1 1 4 g x y) (by omega)), p2.chg c (fun g x y => absurd (h1 2 4 g x y) (by omega)), p3.chg c (fun g x y => absurd (h1 3 4 g x y) (by omega)), q⟩, c.mono (fun g _ hg => h2 4 g hg)⟩))).mono ?_
 rintro e w' ⟨r, ⟨p0, p1, p2, p3, p4⟩, c⟩
 exact ⟨r, ⟨A, h1, h2, p0, p1, p2, p3, p4⟩, c⟩
end
section
open Go.RowKit

theorem WrS.net {RN : World → (Nat → Prop) → NodE → Prop} {RR : World → (Nat → Prop) → RpcE → Prop} {w : World} {F : Nat → Prop} {W : WrV} {D : Wd} (h : WrS RN RR w F W D) : OwnE w 0 87 15 W.rv D.rs.length (D.rs.map rpcC).flatten ∧ ∀ g, wrB W.rv g → F g := by
 obtain ⟨A, _, h2, _, o1, _⟩ := h
 exact ⟨o1.1.1, fun g hg => h2 1 g (o1.1.2 g hg)⟩
theorem WrAt.ones6 {n : Nat} {w : World} {sz : Int} {nv rv cv av lv : Value} {D : Wd} (h : WrAt n w ⟨sz, nv, rv, cv, av, lv⟩ D) : ([.int .i64 sz, nv, rv, cv, av, lv] : List Value).toArray.all (·.oneCell') = true := by
 obtain ⟨q1, q2, q3, q4, q5⟩ := h
 obtain ⟨_, _, e1, _⟩ := q1.len
 obtain ⟨_, _, e2, _⟩ := q2.len
 obtain ⟨_, _, e3, _⟩ := q3.len
 obtain ⟨_, _, _, _, e4, _⟩ := q4
 obtain ⟨_, _, e5, _⟩ := q5.len
 simp only at e1 e2 e3 e4 e5
 subst e1 e2 e3 e4 e5
 simp [Value.oneCell']
def Wd.sent (D : Wd) (es : List RpcE) : Wd := ⟨D.ns, D.rs ++ es.take (30 - D.rs.length), D.cs, D.ds, D.ls⟩
theorem LsLk.app {ε : Type} {lk : ε → ε → Prop} {a b c d : List ε} (h : LsLk lk a b) (k : LsLk lk c d) : LsLk lk (a ++ c) (b ++ d) := by
 refine ⟨by rw [List.length_append, List.length_append, h.1, k.1], fun i h1 h2 => ?_⟩
 by_cases e : i < a.length
 ·rw [List.getElem_append_left e, List.getElem_append_left (by have := h.1; omega)]
  exact h.2 i e _
 ·have e1 := h.1
  have : (b ++ d)[i] = d[i - a.length]'(by rw [List.length_append] at h2; omega) := by rw [List.getElem_append_right (by omega)]; simp [e1]
  rw [List.getElem_append_right (by omega), this]
  exact k.2 _ _ _
theorem LsLk.take {ε : Type} {lk : ε → ε → Prop} {a b : List ε} (h : LsLk lk a b) (k : Nat) : LsLk lk (a.take k) (b.take k) := by
 refine ⟨by rw [List.length_take, List.length_take, h.1], fun i h1 h2 => ?_⟩
 rw [List.getElem_take, List.getElem_take]
 exact h.2 i _ _
theorem LsLk.tr {ε : Type} {lk : ε → ε → Prop} (ht : ∀ e f g, lk e f → lk f g → lk e g) {a b c : List ε} (h : LsLk lk a b) (k : LsLk lk b c) : LsLk lk a c :=
 ⟨h.1.trans k.1, fun i h1 h2 => ht _ _ _ (h.2 i h1 (by have := h.1; omega)) (k.2 i (by have := h.1; omega) h2)⟩
theorem nodLk.refl (e : NodE) : nodLk e e := ⟨⟨rfl, rfl, rfl, rfl, rfl, rfl, rfl⟩, rfl⟩
theorem rpcLk.refl (e : RpcE) : rpcLk e e := ⟨⟨rfl, rfl, rfl, rfl, rfl, rfl, rfl, rfl⟩, rfl⟩
theorem rpcLk.symm {e f : RpcE} (h : rpcLk e f) : rpcLk f e := h.both _ _ _ (rpcLk.refl e)
theorem rpcLk.tr (e f g : RpcE) (h : rpcLk e f) (k : rpcLk f g) : rpcLk e g := (h.symm).both _ _ _ k
theorem Wd.like.rfl (D : Wd) : D.like D := ⟨LsLk.refl nodLk.refl _, LsLk.refl rpcLk.refl _, Eq.refl _, Eq.refl _, Eq.refl _⟩
theorem Wd.like.sm {D E : Wd} (h : D.like E) : E.like D := h.both (Wd.like.rfl D)
theorem Wd.sent_like {D E : Wd} {es fs gs : List RpcE} (h : D.like E) (k : LsLk rpcLk es fs) (g : LsLk rpcLk (fs.take (30 - E.rs.length)) gs) : (D.sent es).like ⟨E.ns, E.rs ++ gs, E.cs, E.ds, E.ls⟩ :=
 ⟨h.n, LsLk.app h.r (LsLk.tr rpcLk.tr (by rw [h.r.1]; exact k.take _) g), h.c, h.d, h.l⟩
end
end Go.Proofs.YtkcaelfkcepdkaaGreat
