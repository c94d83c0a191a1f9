/-
  The model's drawing of messages that may be wrong, and of rows of them.
-/
import Derived.Test.YtmpiijphpnjlnaaGreatPart6
namespace Go.Proofs.YtmpiijphpnjlnaaGreat
open Go.RowKit

theorem app_one_at {P : Program} {ops : Array Oper} {rest : List Oper} {o : Oper} {a : Act} {Q : Exit → Act → World → Prop} (W : World) (N : Nat) (hN : W.heap.size = N) (hgd : o.guard = none) (s x : Operand) (t : TypeId)
    (ho : o.op = .call { callee := .builtin .append, args := #[s, x], argTypes := #[t, t] })
    (base : Nat) (e : TypeId) (i : TypeInfo) (z : Value) (size bytes : Nat) (ht : P.underlying t = some (.slice e)) (hi : P.info? e = some i) (hz : i.zero = some z)
    (hsize : i.size = size) (hby : i.bytes = bytes) (hzs : z.cells.size = size) (hsz : 0 < size)
    (v : Value) (n : Nat) (xs : List Value) (hs : a.eval s = v) (hown : W.ownsRow base e size v n xs)
    (news : List Value) (hx : a.eval x = .slice (some ⟨N, 0, none⟩) 1 1) (hl : news.length = size) (h1 : ∀ u ∈ news, u.oneCell' = true)
    (h63 : n + 1 ≤ maxLen) (hbytes : (n + 1) * bytes ≤ 140737488355328) (hbase : base ≤ W.heap.size)
    (h : ∀ v' w', w'.ownsRow base e size v' (n + 1) (xs ++ news) → Chg (fun g => v.ownBlock = some g) W w' → Below base W w' → wpList P ops Q rest (a.put o.dst v') w') :
    wpList P ops Q (o :: rest) a (W.alloc (.cells news.toArray e)) := by
  subst hN
  exact app_one W hgd s x t ho base e i z size bytes ht hi hz hsize hby hzs hsz v n xs hs hown news hx hl h1 h63 hbytes hbase h

theorem MsgEnd.chgC {w : World} {C R M : Nat} {o k v : Int} {W W' : World} (h : MsgEnd w C R M o k v W) (hc : Cur W' C) (hg : Chg (fun g => g = C) W W') : MsgEnd w C R M o k v W' := by
  obtain ⟨a, b, c, hR⟩ := h.hR
  have h1 := h.nC; have h2 := h.rR; have h3 := h.rM
  exact ⟨hc, h.chg.trans hg (fun _ _ e => e), ⟨a, b, c, row_chg hR hg (by omega)⟩, row_chg h.hM hg (by omega), h.rR, h.rM, h.ne, h.nC⟩
theorem MsgEnd.alloc {w : World} {C R M : Nat} {o k v : Int} {W : World} (h : MsgEnd w C R M o k v W) (x : Obj) : MsgEnd w C R M o k v (W.alloc x) := by
  obtain ⟨a, b, c, hR⟩ := h.hR
  exact ⟨h.cur.alloc x, h.chg.alloc x, ⟨a, b, c, by rw [Below.heap_alloc _ _ _ (Array.getElem?_eq_some_iff.1 hR).1]; exact hR⟩, by rw [Below.heap_alloc _ _ _ (Array.getElem?_eq_some_iff.1 h.hM).1]; exact h.hM, h.rR, h.rM, h.ne, h.nC⟩
theorem MsgEnd.set {w : World} {C R M : Nat} {o k v o' k' v' : Int} {W : World} (h : MsgEnd w C R M o k v W) (j : Nat) (x : Value) (hx : (W.setCell ⟨M, j, none⟩ x).heap[M]? = some (.cells #[.int .i64 o', .int .i64 k', .int .i64 v'] 37 (0, 0))) : MsgEnd w C R M o' k' v' (W.setCell ⟨M, j, none⟩ x) := by
  obtain ⟨a, b, c, hR⟩ := h.hR
  have h1 := h.nC; have h2 := h.rR; have h3 := h.rM
  have cM : Chg (fun g => g = M) W (W.setCell ⟨M, j, none⟩ x) := Chg.setAt (F := fun g => g = M) (Chg.refl _ _) _ _ rfl _
  exact ⟨h.cur.chg cM (fun g e => by omega), h.chg.trans cM (fun g hg e => by omega), ⟨a, b, c, row_chg hR cM h.ne⟩, hx, h.rR, h.rM, h.ne, h.nC⟩

set_option maxRecDepth 100000 in
set_option maxHeartbeats 2000000 in
theorem l1DrawBad_any (C : Nat) (w : World) (hc : Cur w C) :
    Calls Tryz.prog 54 #[.pointer (some ⟨C, 0, none⟩)] w fun e w' => ∃ o k v : Int, e = .returned (.agg #[.int .i64 o, .int .i64 k, .int .i64 v]) ∧ Cur w' C ∧ Chg (fun g => g = C) w w' := by
  have hCw := hc.lt
  have CU : Hid (Cur w C) := hc
  clear hc
  go_enter Tryz.func54, Tryz.ntmps54
  go_wp2_with fail
  refine (l1DrawMsg_any C _ (CU.out.alloc _)).mono ?_
  rintro e w1 ⟨o, k, v, rfl, c1, g1⟩
  have R1 := row_chg (heap_alloc_new w (.cells #[.int .i64 0, .int .i64 0, .int .i64 0] 37)) g1 (by omega)
  have hsz : w.heap.size < w1.heap.size := (Array.getElem?_eq_some_iff.1 R1).1
  have E0 : Hid (MsgEnd w C w.heap.size w1.heap.size o k v (w1.alloc (.cells #[.int .i64 o, .int .i64 k, .int .i64 v] 37))) :=
    ⟨c1.alloc _, (((Chg.refl _ _).alloc _).trans g1 (fun _ _ e => e)).alloc _, ⟨_, _, _, by rw [Below.heap_alloc _ _ _ hsz]; exact R1⟩, heap_alloc_new _ _, Nat.le_refl _, by omega, by omega, hCw⟩
  clear c1 g1 R1
  go_wp2_with fail
  refine (l1Below_any C 15 _ E0.out.cur (by decide)).mono ?_
  rintro e w2 ⟨x, rfl, hx0, hx1, _, c2, g2⟩
  have E2 : Hid (MsgEnd w C w.heap.size w1.heap.size o k v w2) := E0.out.chgC c2 g2
  clear c2 g2 hx1 E0
  rcases (show x = 0 ∨ x = 1 ∨ x = 2 ∨ 3 ≤ x by omega) with rfl | rfl | rfl | h3
  · go_wp2_with fail
    refine (l1Below_any C 7 _ E2.out.cur (by decide)).mono ?_
    rintro e w3 ⟨y, rfl, hy0, hy1, _, c3, g3⟩
    have hy7 := hy1 (by decide)
    have E3 := E2.out.chgC c3 g3
    obtain ⟨⟨a0, a1, a2⟩, b0, b1, b2⟩ := at3 E3.hM
    have hs := set31 (.int .i64 (y - 1)) E3.hM
    have E4 := E3.set 0 _ hs
    obtain ⟨⟨m0, m1, m2⟩, n0, n1, n2⟩ := at3 hs
    obtain ⟨ra, rb, rc, hRR⟩ := E4.hR
    obtain ⟨⟨r0, r1, r2⟩, t0, t1, t2⟩ := at3 hRR
    have FIN : Hid _ := E4.fin
    clear c3 g3 E3 hs E4 hy1 hRR
    go_wp2
    obtain ⟨⟨k1, k2⟩, q0, q1, q2⟩ := FIN.out
    exact bodyPost_ret (v := .agg #[.int .i64 (y - 1), .int .i64 k, .int .i64 v]) (by simp [results, Tryz.results54, go_sem, q0, q1, q2]) rfl ⟨_, _, _, rfl, k1, k2⟩
  · have hs2 : w1.heap.size < w2.heap.size := (Array.getElem?_eq_some_iff.1 E2.out.hM).1
    have hd : C ≠ w2.heap.size := by have := E2.out.cur.lt; omega
    go_wp2_with fail
    refine (l1PickInt_any C w2.heap.size [-1, 1000] (by decide) (by decide) _ (E2.out.alloc _).cur (heap_alloc_new _ _) (fun e => hd e.symm)).mono ?_
    rintro e w3 ⟨y, rfl, _, c3, g3⟩
    have E3 := (E2.out.alloc _).chgC c3 g3
    obtain ⟨⟨a0, a1, a2⟩, b0, b1, b2⟩ := at3 E3.hM
    have hs := set32 (.int .i64 y) E3.hM
    have E4 := E3.set 1 _ hs
    obtain ⟨⟨m0, m1, m2⟩, n0, n1, n2⟩ := at3 hs
    obtain ⟨ra, rb, rc, hRR⟩ := E4.hR
    obtain ⟨⟨r0, r1, r2⟩, t0, t1, t2⟩ := at3 hRR
    have FIN : Hid _ := E4.fin
    clear c3 g3 E3 hs E4 hRR
    go_wp2
    obtain ⟨⟨k1, k2⟩, q0, q1, q2⟩ := FIN.out
    exact bodyPost_ret (v := .agg #[.int .i64 o, .int .i64 y, .int .i64 v]) (by simp [results, Tryz.results54, go_sem, q0, q1, q2]) rfl ⟨_, _, _, rfl, k1, k2⟩
  · have hs2 : w1.heap.size < w2.heap.size := (Array.getElem?_eq_some_iff.1 E2.out.hM).1
    have hd : C ≠ w2.heap.size := by have := E2.out.cur.lt; omega
    go_wp2_with fail
    refine (l1PickInt_any C w2.heap.size [1000000001, 3] (by decide) (by decide) _ (E2.out.alloc _).cur (heap_alloc_new _ _) (fun e => hd e.symm)).mono ?_
    rintro e w3 ⟨y, rfl, _, c3, g3⟩
    have E3 := (E2.out.alloc _).chgC c3 g3
    obtain ⟨⟨a0, a1, a2⟩, b0, b1, b2⟩ := at3 E3.hM
    have hs := set3 (.int .i64 y) E3.hM
    have E4 := E3.set 2 _ hs
    obtain ⟨⟨m0, m1, m2⟩, n0, n1, n2⟩ := at3 hs
    obtain ⟨ra, rb, rc, hRR⟩ := E4.hR
    obtain ⟨⟨r0, r1, r2⟩, t0, t1, t2⟩ := at3 hRR
    have FIN : Hid _ := E4.fin
    clear c3 g3 E3 hs E4 hRR
    go_wp2
    obtain ⟨⟨k1, k2⟩, q0, q1, q2⟩ := FIN.out
    exact bodyPost_ret (v := .agg #[.int .i64 o, .int .i64 k, .int .i64 y]) (by simp [results, Tryz.results54, go_sem, q0, q1, q2]) rfl ⟨_, _, _, rfl, k1, k2⟩
  · have e0 : (x == 0) = false := by rw [beq_eq_false_iff_ne]; omega
    have e1 : (x == 1) = false := by rw [beq_eq_false_iff_ne]; omega
    have e2 : (x == 2) = false := by rw [beq_eq_false_iff_ne]; omega
    obtain ⟨⟨m0, m1, m2⟩, n0, n1, n2⟩ := at3 E2.out.hM
    obtain ⟨ra, rb, rc, hRR⟩ := E2.out.hR
    obtain ⟨⟨r0, r1, r2⟩, t0, t1, t2⟩ := at3 hRR
    have FIN : Hid _ := E2.out.fin
    go_wp2
    obtain ⟨⟨k1, k2⟩, q0, q1, q2⟩ := FIN.out
    exact bodyPost_ret (v := .agg #[.int .i64 o, .int .i64 k, .int .i64 v]) (by simp [results, Tryz.results54, go_sem, q0, q1, q2]) rfl ⟨_, _, _, rfl, k1, k2⟩

end Go.Proofs.YtmpiijphpnjlnaaGreat
