/-
  The model's l6Draw: a drawn disk, with one thing turned.
-/
import Derived.Test.YtekcnibohikmdaaOfWrites39
namespace Go.Proofs.Ytekcnibohikmdaa
set_option maxRecDepth 100000
set_option maxHeartbeats 8000000
section
open Go.RowKit

theorem OwnE.cut {w : World} {base e size n g cap : Nat} {xs : List Value} (h : OwnE w base e size (.slice (some ⟨g, 0, none⟩) n cap) n xs) {k : Nat} (hk : k ≤ n) (hn : 0 < n) : OwnE w base e size (.slice (some ⟨g, 0, none⟩) k cap) k (xs.take (k * size)) := by
 rcases h with h | ⟨h, _⟩
 ·obtain ⟨hl, ⟨h1, _⟩ | ⟨g', cap', cur, h1, hg, hh, hn', hcap, hsz, htake⟩⟩ := h
  ·simp at h1
  ·simp at h1
   obtain ⟨rfl, rfl⟩ := h1
   have hle := Nat.mul_le_mul_right size hk
   refine .inl ⟨by rw [List.length_take, hl]; omega, .inr ⟨g, cap, cur, rfl, hg, hh, by omega, hcap, hsz, ?_⟩⟩
   rw [← htake, List.take_take]
   congr 1
   omega
 ·omega
theorem flatP_put (z : Int) : ∀ (S : SL) (i : Nat), i < S.length * 2 → ∃ S' : SL, S'.length = S.length ∧ (flatP S).set i (.int .i64 z) = flatP S'
 | [], i, h => by simp at h
 | (a, b) :: S, 0, _ => ⟨(z, b) :: S, rfl, rfl⟩
 | (a, b) :: S, 1, _ => ⟨(a, z) :: S, rfl, rfl⟩
 | p :: S, i + 2, h => by
  obtain ⟨S', h1, h2⟩ := flatP_put z S i (by simp at h; omega)
  refine ⟨p :: S', by simp [h1], ?_⟩
  show .int .i64 p.1 :: .int .i64 p.2 :: (flatP S).set i (.int .i64 z) = .int .i64 p.1 :: .int .i64 p.2 :: flatP S'
  rw [h2]

structure DlI (w : World) (C ND : Nat) (vp vs : Value) (P : PgL) (S : SL) (u : World) : Prop where
 c : Cur u C
 g : Chg (fun b => b = C) w u
 r : u.heap[w.heap.size]? = some (.cells #[.slice none 0 0, .slice none 0 0] 27)
 x : u.heap[ND]? = some (.cells #[vp, vs] 27)
 d : DiskE u w.heap.size (.agg #[vp, vs]) P S
 p : PageOk P ∧ S.length ≤ 2
 l : C < w.heap.size ∧ w.heap.size < ND
theorem DlI.turn {w : World} {C ND : Nat} {vp vs : Value} {P : PgL} {S : SL} {u u' : World} (h : DlI w C ND vp vs P S u) (hc : Chg (fun b => b = C) u u') (hu : Cur u' C) : DlI w C ND vp vs P S u' := by
 have l := h.l
 have dl := h.d.lt
 exact ⟨hu, h.g.trans hc (fun _ _ e => e), row_chg h.r hc (fun (e : _ = C) => by omega), row_chg h.x hc (fun (e : _ = C) => by omega), h.d.chg hc (fun g hg (e : g = C) => by have := dl.1 g hg; omega) (fun g hg (e : g = C) => by have := dl.2 g hg; omega), h.p, h.l⟩
theorem DlI.low {w : World} {C ND : Nat} {vp vs : Value} {P : PgL} {S : SL} {u u' : World} (h : DlI w C ND vp vs P S u) (hb : Below u.heap.size u u') : DlI w C ND vp vs P S u' := h.turn (Chg.of_below hb) (h.c.below hb)
theorem DlI.cells {w : World} {C ND : Nat} {vp vs : Value} {P : PgL} {S : SL} {u : World} (h : DlI w C ND vp vs P S u) : u.cell? ⟨ND, 0, none⟩ = some vp ∧ u.cell? ⟨ND, 1, none⟩ = some vs := ⟨cell_of_cells h.x, cell_of_cells h.x⟩
theorem DlI.page {w : World} {C ND g cap n : Nat} {vs : Value} {P : PgL} {S : SL} {u : World} (h : DlI w C ND (.slice (some ⟨g, 0, none⟩) n cap) vs P S u) (hn : P.length = n) (hcap : 0 < cap) (k : Nat) {s : ByteArray} (hs : s.size ≤ 200) : DlI w C ND (.slice (some ⟨g, 0, none⟩) n cap) vs (P.set k s) S (u.setCell ⟨g, k, none⟩ (.string s)) := by
 subst hn
 have l := h.l
 have dl := h.d.lt
 have hw : wrB (.slice (some ⟨g, 0, none⟩) P.length cap) g := ⟨_, cap, rfl, hcap⟩
 have hc : Chg (fun b => b = g) u (u.setCell ⟨g, k, none⟩ (.string s)) := (Chg.refl (fun b => b = g) _).setAt g k rfl _
 have hg := dl.1 g hw
 have nr := (h.d.not h.r (by decide) (by decide)).1
 have nx := (h.d.not h.x (by decide) (by decide)).1
 obtain ⟨vp', vs', e, o1, o2⟩ := h.d
 simp at e
 obtain ⟨rfl, rfl⟩ := e
 have o1' := o1.store hcap k (.string s)
 rw [flatS_set] at o1'
 refine ⟨h.c.chg hc (fun b (e : b = g) => by omega), h.g.trans hc (fun b hb (e : b = g) => by omega), row_chg h.r hc (fun (e : _ = g) => nr (e ▸ hw)), row_chg h.x hc (fun (e : _ = g) => nx (e ▸ hw)), ⟨_, _, rfl, by rw [List.length_set]; exact o1', o2.chg hc (fun b hb (e : b = g) => o1.apart o2 (by decide) g hw (e ▸ hb))⟩, ⟨⟨by rw [List.length_set]; exact h.p.1.1, fun y hy => ?_⟩, h.p.2⟩, h.l⟩
 rcases List.mem_or_eq_of_mem_set hy with h' | h'
 ·exact h.p.1.2 y h'
 ·rw [h']; exact hs
theorem DlI.sup {w : World} {C ND g cap n : Nat} {vp : Value} {P : PgL} {S : SL} {u : World} (h : DlI w C ND vp (.slice (some ⟨g, 0, none⟩) n cap) P S u) (hn : S.length = n) (hcap : 0 < cap) (k : Nat) (hk : k < n * 2) (z : Int) : ∃ S', DlI w C ND vp (.slice (some ⟨g, 0, none⟩) n cap) P S' (u.setCell ⟨g, k, none⟩ (.int .i64 z)) := by
 subst hn
 have l := h.l
 have dl := h.d.lt
 have hw : wrB (.slice (some ⟨g, 0, none⟩) S.length cap) g := ⟨_, cap, rfl, hcap⟩
 have hc : Chg (fun b => b = g) u (u.setCell ⟨g, k, none⟩ (.int .i64 z)) := (Chg.refl (fun b => b = g) _).setAt g k rfl _
 have hg := dl.2 g hw
 have nr := (h.d.not h.r (by decide) (by decide)).2
 have nx := (h.d.not h.x (by decide) (by decide)).2
 obtain ⟨vp', vs', e, o1, o2⟩ := h.d
 simp at e
 obtain ⟨rfl, rfl⟩ := e
 obtain ⟨S', hS1, hS2⟩ := flatP_put z S k hk
 have o2' := o2.store hcap k (.int .i64 z)
 rw [hS2] at o2'
 exact ⟨S', h.c.chg hc (fun b (e : b = g) => by omega), h.g.trans hc (fun b hb (e : b = g) => by omega), row_chg h.r hc (fun (e : _ = g) => nr (e ▸ hw)), row_chg h.x hc (fun (e : _ = g) => nx (e ▸ hw)), ⟨_, _, rfl, o1.chg hc (fun b hb (e : b = g) => o1.apart o2 (by decide) g (e ▸ hb) hw), by rw [hS1]; exact o2'⟩, ⟨h.p.1, by rw [hS1]; exact h.p.2⟩, h.l⟩
theorem flatS_take (P : PgL) (k : Nat) : (flatS P).take (k * 1) = flatS (P.take k) := by rw [Nat.mul_one]; simp [flatS, List.map_take]
theorem flatP_cutd : ∀ (S : SL) (k : Nat), (flatP S).take (k * 2) = flatP (S.take k)
 | [], k => by simp [flatP]
 | _ :: _, 0 => by simp [flatP]
 | p :: S, k + 1 => by
  rw [show (k + 1) * 2 = k * 2 + 1 + 1 by omega]
  show .int .i64 p.1 :: .int .i64 p.2 :: (flatP S).take (k * 2) = .int .i64 p.1 :: .int .i64 p.2 :: flatP (S.take k)
  rw [flatP_cutd S k]
theorem DlI.box {w : World} {C ND : Nat} {vp vs vp' vs' : Value} {P P' : PgL} {S S' : SL} {u : World} (h : DlI w C ND vp vs P S u) (hd : DiskE u w.heap.size (.agg #[vp', vs']) P' S') (hp : PageOk P' ∧ S'.length ≤ 2) (i : Nat) (z : Value) (hz : (u.setCell ⟨ND, i, none⟩ z).heap[ND]? = some (.cells #[vp', vs'] 27)) : DlI w C ND vp' vs' P' S' (u.setCell ⟨ND, i, none⟩ z) := by
 have l := h.l
 have hc : Chg (fun g => g = ND) u (u.setCell ⟨ND, i, none⟩ z) := (Chg.refl (fun g => g = ND) _).setAt ND i rfl _
 have hn := hd.not h.x (by decide) (by decide)
 exact ⟨h.c.chg hc (fun g (e : g = ND) => by omega), h.g.trans hc (fun g hg (e : g = ND) => by omega), row_chg h.r hc (fun (e : _ = ND) => by omega), hz, hd.chg hc (fun g hg (e : g = ND) => hn.1 (e ▸ hg)) (fun g hg (e : g = ND) => hn.2 (e ▸ hg)), hp, h.l⟩
theorem DlI.cutP {w : World} {C ND g cap n : Nat} {vs : Value} {P : PgL} {S : SL} {u : World} (h : DlI w C ND (.slice (some ⟨g, 0, none⟩) n cap) vs P S u) (hn : P.length = n) (k : Nat) (hk : k ≤ P.length) (hP : 0 < P.length) : DlI w C ND (.slice (some ⟨g, 0, none⟩) k cap) vs (P.take k) S (u.setCell ⟨ND, 0, none⟩ (.slice (some ⟨g, 0, none⟩) k cap)) := by
 subst hn
 obtain ⟨vp', vs', e, o1, o2⟩ := h.d
 simp at e
 obtain ⟨rfl, rfl⟩ := e
 have o1' := o1.cut hk hP
 rw [flatS_take] at o1'
 have hlen : (P.take k).length = k := by rw [List.length_take]; omega
 exact h.box ⟨_, _, rfl, by rw [hlen]; exact o1', o2⟩ ⟨⟨by rw [hlen]; exact Nat.le_trans hk h.p.1.1, fun y hy => h.p.1.2 y (List.mem_of_mem_take hy)⟩, h.p.2⟩ 0 _ (heap_setCell_same u _ 0 _ _ _ h.x)
theorem DlI.cutS {w : World} {C ND g cap n : Nat} {vp : Value} {P : PgL} {S : SL} {u : World} (h : DlI w C ND vp (.slice (some ⟨g, 0, none⟩) n cap) P S u) (hn : S.length = n) (k : Nat) (hk : k ≤ S.length) (hS : 0 < S.length) : DlI w C ND vp (.slice (some ⟨g, 0, none⟩) k cap) P (S.take k) (u.setCell ⟨ND, 1, none⟩ (.slice (some ⟨g, 0, none⟩) k cap)) := by
 subst hn
 obtain ⟨vp', vs', e, o1, o2⟩ := h.d
 simp at e
 obtain ⟨rfl, rfl⟩ := e
 have o2' := o2.cut hk hS
 rw [flatP_cutd] at o2'
 have hlen : (S.take k).length = k := by rw [List.length_take]; omega
 exact h.box ⟨_, _, rfl, o1, by rw [hlen]; exact o2'⟩ ⟨h.p.1, by rw [hlen]; exact Nat.le_trans hk h.p.2⟩ 1 _ (heap_setCell_same u _ 1 _ _ _ h.x)

theorem DlI.supAt {w : World} {C ND g cap n : Nat} {vp : Value} {P : PgL} {S : SL} {u : World} (h : DlI w C ND vp (.slice (some ⟨g, 0, none⟩) n cap) P S u) (hn : S.length = n) {k : Nat} (hk : k < n) : (∃ x, u.cell? ⟨g, k * 2, none⟩ = some (.int .i64 x)) ∧ u.frozen? ⟨g, k * 2, none⟩ = false ∧ (∃ x, u.cell? ⟨g, k * 2 + 1, none⟩ = some (.int .i64 x)) ∧ u.frozen? ⟨g, k * 2 + 1, none⟩ = false := by
 subst hn
 obtain ⟨vp', vs', e, o1, o2⟩ := h.d
 simp at e
 obtain ⟨rfl, rfl⟩ := e
 have h0 := o2.cell _ _ (flatP_at S k hk).1
 have h1 := o2.cell _ _ (flatP_at S k hk).2
 exact ⟨⟨_, h0.1⟩, h0.2, ⟨_, h1.1⟩, h1.2⟩
theorem DlI.pageAt {w : World} {C ND g cap n : Nat} {vs : Value} {P : PgL} {S : SL} {u : World} (h : DlI w C ND (.slice (some ⟨g, 0, none⟩) n cap) vs P S u) (hn : P.length = n) {k : Nat} (hk : k < n) : (∃ s, u.cell? ⟨g, k, none⟩ = some (.string s)) ∧ u.frozen? ⟨g, k, none⟩ = false := by
 subst hn
 obtain ⟨vp', vs', e, o1, o2⟩ := h.d
 simp at e
 obtain ⟨rfl, rfl⟩ := e
 have h0 := o1.cell _ _ (flatS_at P k hk)
 exact ⟨⟨_, h0.1⟩, h0.2⟩
theorem run22 (args : Array Value) (w : World) : (callFunc 22 args).run Try.prog w = .ok (.enter 22 args) w := by go_simp

theorem l6Draw_any (C : Nat) (v : Value) (bs : List Int) (w : World) (hc : Cur w C) (hcode : Code8 w v bs) (hn : bs.length ≤ 1048576) :
  Calls Try.prog 25 #[.pointer (some ⟨C, 0, none⟩), v] w fun e w' => ∃ (v : Value) (P : PgL) (S : SL), e = .returned v ∧ (PageOk P ∧ S.length ≤ 2) ∧ DiskE w' w.heap.size v P S ∧ Cur w' C ∧ Chg (fun b => b = C) w w' := by
 have hCw : C < w.heap.size := hc.lt
 have al := al1 w (.cells #[.slice none 0 0, .slice none 0 0] 27)
 have HD := hid (l6DrawRight_any C v bs (w.alloc (.cells #[.slice none 0 0, .slice none 0 0] 27)) (hc.alloc _) (hcode.below al) hn)
 have R0 := hid (heap_alloc_new w (.cells #[.slice none 0 0, .slice none 0 0] 27))
 have G0 : Hid (Chg (fun b => b = C) w (w.alloc (.cells #[.slice none 0 0, .slice none 0 0] 27))) := Chg.of_below al
 clear hc hcode hn al
 go_enter Try.func25, Try.ntmps25
 go_wp2_with fail
 refine Calls.mono HD.out ?_
 rintro e w2 ⟨vd, P, S, rfl, dn, de, c2, G2⟩
 obtain ⟨pa1, pq1, pa2, pq2, hvd⟩ := de.shape''
 subst hvd
 have hs2 : w.heap.size + 1 ≤ w2.heap.size := by have := G2.size; simpa using this
 have al2 := al1 w2 (.cells #[.slice pa1 P.length pq1, .slice pa2 S.length pq2] 27)
 have J2 : Hid (DlI w C w2.heap.size (.slice pa1 P.length pq1) (.slice pa2 S.length pq2) P S (w2.alloc (.cells #[.slice pa1 P.length pq1, .slice pa2 S.length pq2] 27))) :=
  ⟨c2.below al2, (G0.out.trans G2 (fun _ _ e => e)).alloc _, row_chg (row_chg R0.out G2 (fun (e : _ = C) => by omega)) (Chg.of_below (F := fun _ => False) al2) id, heap_alloc_new _ _, (de.mono (by simp)).chg (Chg.of_below (F := fun _ => False) al2) (fun _ _ e => e) (fun _ _ e => e), ⟨dn.1, by rcases dn.2 with h | h <;> omega⟩, hCw, by omega⟩
 have DNH := hid dn.2
 clear c2 G2 al2 HD G0 R0 de dn
 generalize hpn : P.length = pn at *
 generalize hsn : S.length = sn at *
 have LN := hid (And.intro hpn hsn)
 clear hpn hsn
 go_upto_region 2 with fail
 refine wp_gen (fun u => DlI w C w2.heap.size (.slice pa1 pn pq1) (.slice pa2 sn pq2) P S u) J2.out ?_
 intro V hV
 have JV := hid hV
 obtain ⟨d0, d1⟩ := hV.cells
 clear hV J2
 have hlo : w.heap.size < w2.heap.size := by omega
 clear hs2
 generalize w2.heap.size = ND at *
 have FIN : Hid (∀ (u : World) (pa1 pa2 : Option Addr) (pn sn pq1 pq2 : Nat) (P : PgL) (S : SL), DlI w C ND (.slice pa1 pn pq1) (.slice pa2 sn pq2) P S u → (PageOk P ∧ S.length ≤ 2) ∧ DiskE ((u.setCell ⟨w.heap.size, 0, none⟩ (.slice pa1 pn pq1)).setCell ⟨w.heap.size, 1, none⟩ (.slice pa2 sn pq2)) w.heap.size (.agg #[.slice pa1 pn pq1, .slice pa2 sn pq2]) P S ∧ Cur ((u.setCell ⟨w.heap.size, 0, none⟩ (.slice pa1 pn pq1)).setCell ⟨w.heap.size, 1, none⟩ (.slice pa2 sn pq2)) C ∧ Chg (fun b => b = C) w ((u.setCell ⟨w.heap.size, 0, none⟩ (.slice pa1 pn pq1)).setCell ⟨w.heap.size, 1, none⟩ (.slice pa2 sn pq2))) := fun u pa1 pa2 pn sn pq1 pq2 P S J => by
  have ch : Chg (fun g => g = w.heap.size) u ((u.setCell ⟨w.heap.size, 0, none⟩ (.slice pa1 pn pq1)).setCell ⟨w.heap.size, 1, none⟩ (.slice pa2 sn pq2)) := ((Chg.refl (fun g => g = w.heap.size) _).setAt w.heap.size 0 rfl _).setAt w.heap.size 1 rfl _
  have hn := J.d.not J.r (by decide) (by decide)
  exact ⟨J.p, J.d.chg ch (fun g hg (e : g = w.heap.size) => hn.1 (e ▸ hg)) (fun g hg (e : g = w.heap.size) => hn.2 (e ▸ hg)), J.c.chg ch (fun g (e : g = w.heap.size) => by omega), J.g.trans ch (fun g hg (e : g = w.heap.size) => by omega)⟩
 have CLS : Hid (∀ (u : World) (pa1 pa2 : Option Addr) (pn sn pq1 pq2 : Nat) (P : PgL) (S : SL), DlI w C ND (.slice pa1 pn pq1) (.slice pa2 sn pq2) P S u → (u.cell? ⟨ND, 0, none⟩ = some (.slice pa1 pn pq1) ∧ u.cell? ⟨ND, 1, none⟩ = some (.slice pa2 sn pq2)) ∧ (u.cell? ⟨w.heap.size, 0, none⟩ = some (.slice none 0 0) ∧ u.cell? ⟨w.heap.size, 1, none⟩ = some (.slice none 0 0) ∧ u.frozen? ⟨w.heap.size, 0, none⟩ = false ∧ u.frozen? ⟨w.heap.size, 1, none⟩ = false) ∧ ((u.setCell ⟨w.heap.size, 0, none⟩ (.slice pa1 pn pq1)).setCell ⟨w.heap.size, 1, none⟩ (.slice pa2 sn pq2)).cell? ⟨w.heap.size, 0, none⟩ = some (.slice pa1 pn pq1) ∧ ((u.setCell ⟨w.heap.size, 0, none⟩ (.slice pa1 pn pq1)).setCell ⟨w.heap.size, 1, none⟩ (.slice pa2 sn pq2)).cell? ⟨w.heap.size, 1, none⟩ = some (.slice pa2 sn pq2)) := fun u pa1 pa2 pn sn pq1 pq2 P S J => by
  have R2 := heap_setCell_same _ _ 1 _ _ (.slice pa2 sn pq2) (heap_setCell_same u _ 0 _ _ (.slice pa1 pn pq1) J.r)
  exact ⟨J.cells, ⟨cell_of_cells J.r, cell_of_cells J.r, frozen_of_cells J.r, frozen_of_cells J.r⟩, cell_of_cells R2, cell_of_cells R2⟩
 clear d0 d1
 by_cases hsm : sn < 2
 ·obtain ⟨⟨d0, d1⟩, ⟨r0, r1, f0, f1⟩, n0, n1⟩ := CLS.out V _ _ _ _ _ _ _ _ JV.out
  have hs2 : (sn : Int) < 2 := by omega
  go_wp2
  refine bodyPost_ret (v := .agg #[.slice pa1 pn pq1, .slice pa2 sn pq2]) (by simp [results, Try.results25, go_sem, n0, n1]) rfl ⟨_, P, S, rfl, FIN.out _ _ _ _ _ _ _ _ _ JV.out⟩
 ·have hpn : pn = 200 := by have := LN.out; rcases DNH.out with h | h <;> omega
  have hsn : sn = 2 := by have := LN.out; rcases DNH.out with h | h <;> omega
  subst hpn hsn
  have hP := LN.out.1
  have hS := LN.out.2
  obtain ⟨pg, pc, hp1, hp2, hp3⟩ : ∃ g cap, Value.slice pa1 200 pq1 = .slice (some ⟨g, 0, none⟩) P.length cap ∧ 0 < cap ∧ P.length ≤ cap := by
   obtain ⟨vp', vs', e, o1, o2⟩ := JV.out.d
   simp at e
   obtain ⟨rfl, rfl⟩ := e
   exact o1.pos (by omega)
  obtain ⟨sg, sc, hq1, hq2, hq3⟩ : ∃ g cap, Value.slice pa2 2 pq2 = .slice (some ⟨g, 0, none⟩) S.length cap ∧ 0 < cap ∧ S.length ≤ cap := by
   obtain ⟨vp', vs', e, o1, o2⟩ := JV.out.d
   simp at e
   obtain ⟨rfl, rfl⟩ := e
   exact o2.pos (by omega)
  injection hp1 with e1 e2 e3
  injection hq1 with e4 e5 e6
  subst e1 e3 e4 e6
  clear DNH LN hsm e2 e5
  obtain ⟨d0, d1⟩ := JV.out.cells
  have HB := hid (l1Below_any C 20 V JV.out.c (by decide))
  go_wp2_with fail
  refine Calls.mono HB.out ?_
  rintro e w3 ⟨b, rfl, hb0, hb1, _, c3, G3⟩
  have J3 := hid (JV.out.turn G3 c3)
  clear JV HB c3 G3 d0 d1 hb1
  obtain ⟨kb, hkb⟩ : ∃ k : Nat, b = k := ⟨b.toNat, by omega⟩
  subst hkb
  clear hb0
  go_upto_block 0 with fail
  have hS2 := hS
  have hP2 := hP
  clear hS hP
  go_cut [] (fun wx => ∃ (pa1 pa2 : Option Addr) (pn sn pq1 pq2 : Nat) (P : PgL) (S : SL), Hid (DlI w C ND (.slice pa1 pn pq1) (.slice pa2 sn pq2) P S wx))
  case first =>
   rcases (show kb = 0 ∨ kb = 1 ∨ kb = 2 ∨ kb = 3 ∨ kb = 4 ∨ kb = 5 ∨ 6 ≤ kb by omega) with rfl | rfl | rfl | rfl | rfl | rfl | h6
   ·go_wp2_with fail
    have J4 := hid (J3.out.low (Below.refl _ w3).drew)
    refine wp_region_held_drew (S := fun u => u.cell? ⟨ND, 1, none⟩ = some (.slice (some ⟨sg, 0, none⟩) 2 pq2)) (by kernel_rfl) J4.out.cells.2 (fun hH => ?_)
    generalize w3.drew = wd at *
    clear J3
    refine tq 0 rfl (by kernel_rfl) (fun _ _ _ h => h) (by assumption) rfl (by intro w h; go_simp <;> with_reducible rfl) ?_
    try simp only [Act.put, List.setIfInBounds_toArray, List.set_cons_zero, List.set_cons_succ]
    refine tq 1 rfl (by kernel_rfl) (fun _ _ _ h => h) (by assumption) rfl (by intro w h; go_simp <;> with_reducible rfl) ?_
    try simp only [Act.put, List.setIfInBounds_toArray, List.set_cons_zero, List.set_cons_succ]
    refine tq 2 rfl (by kernel_rfl) (fun _ _ _ h => h) (by assumption) rfl (by intro w h; go_simp <;> with_reducible rfl) ?_
    try simp only [Act.put, List.setIfInBounds_toArray, List.set_cons_zero, List.set_cons_succ]
    refine tq 4 rfl (by kernel_rfl) (fun _ _ _ h => h) (by assumption) rfl (by intro w h; go_simp <;> with_reducible rfl) ?_
    try simp only [Act.put, List.setIfInBounds_toArray, List.set_cons_zero, List.set_cons_succ]
    refine rq 3 (by kernel_rfl) rfl (fun K hK => ?_)
    refine step_func rfl 18 [.tmp 20, .const (.int .i64 2)] #[45, 3] rfl run18 [.pointer (some ⟨C, 0, none⟩), .int .i64 2] rfl (l1Below_any C 2 wd J4.out.c (by decide)) ?_
    rintro e w4 ⟨b, rfl, hb0, hb1, _, cc, GG⟩
    refine ⟨_, rfl, ?_⟩
    have J5 := hid (J4.out.turn GG cc)
    have hlt := hb1 (by decide)
    obtain ⟨k1, hk1⟩ : ∃ k : Nat, b = k := ⟨b.toNat, by omega⟩
    subst hk1
    have k10 : (0 : Int) ≤ (k1 : Int) := by omega
    have k11 : (k1 : Int) < 2 := hlt
    have k12 : k1 < 2 := by omega
    clear hb0 hb1 cc GG hlt
    refine hK.out _ _ (J5.out.cells.2) (fun hH2 => ?_)
    clear hK K hH
    have hH := hH2
    clear hH2
    try simp only [Act.put, List.setIfInBounds_toArray, List.set_cons_zero, List.set_cons_succ]
    refine rq 5 (by kernel_rfl) rfl (fun K hK => ?_)
    refine step_func rfl 18 [.tmp 22, .const (.int .i64 5)] #[45, 3] rfl run18 [.pointer (some ⟨C, 0, none⟩), .int .i64 5] rfl (l1Below_any C 5 w4 J5.out.c (by decide)) ?_
    rintro e w5 ⟨b, rfl, hb0, hb1, _, cc, GG⟩
    refine ⟨_, rfl, ?_⟩
    have J6 := hid (J5.out.turn GG cc)
    have hlt := hb1 (by decide)
    obtain ⟨k2, hk2⟩ : ∃ k : Nat, b = k := ⟨b.toNat, by omega⟩
    subst hk2
    have k20 : (0 : Int) ≤ (k2 : Int) := by omega
    have k21 : (k2 : Int) < 5 := hlt
    have k22 : k2 < 5 := by omega
    clear hb0 hb1 cc GG hlt
    refine hK.out _ _ (J6.out.cells.2) (fun hH2 => ?_)
    clear hK K hH
    have hH := hH2
    clear hH2
    try simp only [Act.put, List.setIfInBounds_toArray, List.set_cons_zero, List.set_cons_succ]
    refine tq 6 rfl (by kernel_rfl) (fun _ _ _ h => h) (by assumption) rfl (by intro w h; go_simp <;> with_reducible rfl) ?_
    try simp only [Act.put, List.setIfInBounds_toArray, List.set_cons_zero, List.set_cons_succ]
    refine tq 7 rfl (by kernel_rfl) (fun _ _ _ h => h) (by assumption) rfl (by intro w h; go_simp <;> with_reducible rfl) ?_
    try simp only [Act.put, List.setIfInBounds_toArray, List.set_cons_zero, List.set_cons_succ]
    refine tq 8 rfl (by kernel_rfl) (fun _ _ _ h => h) (by assumption) rfl (by intro w h; go_simp <;> with_reducible rfl) ?_
    try simp only [Act.put, List.setIfInBounds_toArray, List.set_cons_zero, List.set_cons_succ]
    obtain ⟨⟨x0, y0⟩, y1, _⟩ := J6.out.supAt hS2 k12
    refine rq 9 (by kernel_rfl) rfl (fun K hK => ?_)
    go_simp
    refine hK.out _ _ ((J6.out.sup hS2 hq2 (k1 * 2) (by omega) _).elim (fun _ h => h.cells.2)) (fun hH2 => ?_)
    clear hK K hH
    have hH := hH2
    clear hH2
    try simp only [Act.put, List.setIfInBounds_toArray, List.set_cons_zero, List.set_cons_succ]
    refine wpAnyH_done (by kernel_rfl) ?_ _
    go_wp2_with fail
    go_meet
    case rel => exact (J6.out.sup hS2 hq2 (k1 * 2) (by omega) _).elim (fun S' h => ⟨_, _, _, _, _, _, P, S', h⟩)
   ·go_wp2_with fail
    have J4 := hid (J3.out.low (Below.refl _ w3).drew)
    refine wp_region_held_drew (S := fun u => u.cell? ⟨ND, 1, none⟩ = some (.slice (some ⟨sg, 0, none⟩) 2 pq2)) (by kernel_rfl) J4.out.cells.2 (fun hH => ?_)
    generalize w3.drew = wd at *
    clear J3
    refine tq 0 rfl (by kernel_rfl) (fun _ _ _ h => h) (by assumption) rfl (by intro w h; go_simp <;> with_reducible rfl) ?_
    try simp only [Act.put, List.setIfInBounds_toArray, List.set_cons_zero, List.set_cons_succ]
    refine tq 1 rfl (by kernel_rfl) (fun _ _ _ h => h) (by assumption) rfl (by intro w h; go_simp <;> with_reducible rfl) ?_
    try simp only [Act.put, List.setIfInBounds_toArray, List.set_cons_zero, List.set_cons_succ]
    refine tq 2 rfl (by kernel_rfl) (fun _ _ _ h => h) (by assumption) rfl (by intro w h; go_simp <;> with_reducible rfl) ?_
    try simp only [Act.put, List.setIfInBounds_toArray, List.set_cons_zero, List.set_cons_succ]
    refine tq 4 rfl (by kernel_rfl) (fun _ _ _ h => h) (by assumption) rfl (by intro w h; go_simp <;> with_reducible rfl) ?_
    try simp only [Act.put, List.setIfInBounds_toArray, List.set_cons_zero, List.set_cons_succ]
    refine wpAnyH_ready (rs := [3, 5]) (by kernel_rfl) (by simp) ?_
    refine AllReadyH.cons (o := ⟨_, _, _, _, _, _⟩) rfl (fun K hK => ?_) (AllReadyH.cons (o := ⟨_, _, _, _, _, _⟩) rfl (fun K hK => ?_) AllReadyH.nil)
    ·refine step_func rfl 18 [.tmp 31, .const (.int .i64 2)] #[45, 3] rfl run18 [.pointer (some ⟨C, 0, none⟩), .int .i64 2] rfl (l1Below_any C 2 wd J4.out.c (by decide)) ?_
     rintro e w4 ⟨b, rfl, hb0, hb1, _, cc, GG⟩
     refine ⟨_, rfl, ?_⟩
     have J5 := hid (J4.out.turn GG cc)
     have hlt := hb1 (by decide)
     obtain ⟨k1, hk1⟩ : ∃ k : Nat, b = k := ⟨b.toNat, by omega⟩
     subst hk1
     have k10 : (0 : Int) ≤ (k1 : Int) := by omega
     have k11 : (k1 : Int) < 2 := hlt
     have k12 : k1 < 2 := by omega
     clear hb0 hb1 cc GG hlt
     refine hK.out _ _ (J5.out.cells.2) (fun hH2 => ?_)
     clear hK K hH
     have hH := hH2
     clear hH2
     try simp only [Act.put, List.setIfInBounds_toArray, List.set_cons_zero, List.set_cons_succ]
     refine rq 5 (by kernel_rfl) rfl (fun K hK => ?_)
     go_simp
     have J6 := hid (J5.out.low (bel_new w4 (.cells #[.int .i64 (-1), .int .i64 0, .int .i64 1, .int .i64 199, .int .i64 200] 3)))
     have N5 := heap_alloc_new w4 (.cells #[.int .i64 (-1), .int .i64 0, .int .i64 1, .int .i64 199, .int .i64 200] 3)
     refine hK.out _ _ (J6.out.cells.2) (fun hH2 => ?_)
     clear hK K hH
     have hH := hH2
     clear hH2
     try simp only [Act.put, List.setIfInBounds_toArray, List.set_cons_zero, List.set_cons_succ]
     refine rq 6 (by kernel_rfl) rfl (fun K hK => ?_)
     refine step_func rfl 22 [.tmp 33, .tmp 34] #[45, 50] rfl run22 [.pointer (some ⟨C, 0, none⟩), .slice (some ⟨w4.heap.size, 0, none⟩) 5 5] rfl (l1PickInt_any C w4.heap.size [-1, 0, 1, 199, 200] (by decide) (by decide) (w4.alloc (.cells #[.int .i64 (-1), .int .i64 0, .int .i64 1, .int .i64 199, .int .i64 200] 3)) J6.out.c N5 (by have := J6.out.c.lt; have := J5.out.c.lt; omega)) ?_
     rintro e w5 ⟨b, rfl, _, cc, GG⟩
     refine ⟨_, rfl, ?_⟩
     have J7 := hid (J6.out.turn GG cc)
     clear cc GG
     refine hK.out _ _ (J7.out.cells.2) (fun hH2 => ?_)
     clear hK K hH
     have hH := hH2
     clear hH2
     try simp only [Act.put, List.setIfInBounds_toArray, List.set_cons_zero, List.set_cons_succ]
     refine tq 7 rfl (by kernel_rfl) (fun _ _ _ h => h) (by assumption) rfl (by intro w h; go_simp <;> with_reducible rfl) ?_
     try simp only [Act.put, List.setIfInBounds_toArray, List.set_cons_zero, List.set_cons_succ]
     refine tq 8 rfl (by kernel_rfl) (fun _ _ _ h => h) (by assumption) rfl (by intro w h; go_simp <;> with_reducible rfl) ?_
     try simp only [Act.put, List.setIfInBounds_toArray, List.set_cons_zero, List.set_cons_succ]
     obtain ⟨_, _, ⟨x0, y0⟩, y1⟩ := J7.out.supAt hS2 k12
     refine rq 9 (by kernel_rfl) rfl (fun K hK => ?_)
     go_simp
     refine hK.out _ _ ((J7.out.sup hS2 hq2 (k1 * 2 + 1) (by omega) _).elim (fun _ h => h.cells.2)) (fun hH2 => ?_)
     clear hK K hH
     have hH := hH2
     clear hH2
     try simp only [Act.put, List.setIfInBounds_toArray, List.set_cons_zero, List.set_cons_succ]
     refine wpAnyH_done (by kernel_rfl) ?_ _
     go_wp2_with fail
     go_meet
     case rel => exact (J7.out.sup hS2 hq2 (k1 * 2 + 1) (by omega) _).elim (fun S' h => ⟨_, _, _, _, _, _, P, S', h⟩)
    ·go_simp
     have J5 := hid (J4.out.low (bel_new wd (.cells #[.int .i64 (-1), .int .i64 0, .int .i64 1, .int .i64 199, .int .i64 200] 3)))
     have N5 := heap_alloc_new wd (.cells #[.int .i64 (-1), .int .i64 0, .int .i64 1, .int .i64 199, .int .i64 200] 3)
     refine hK.out _ _ (J5.out.cells.2) (fun hH2 => ?_)
     clear hK K hH
     have hH := hH2
     clear hH2
     try simp only [Act.put, List.setIfInBounds_toArray, List.set_cons_zero, List.set_cons_succ]
     refine rq 3 (by kernel_rfl) rfl (fun K hK => ?_)
     refine step_func rfl 18 [.tmp 31, .const (.int .i64 2)] #[45, 3] rfl run18 [.pointer (some ⟨C, 0, none⟩), .int .i64 2] rfl (l1Below_any C 2 (wd.alloc (.cells #[.int .i64 (-1), .int .i64 0, .int .i64 1, .int .i64 199, .int .i64 200] 3)) J5.out.c (by decide)) ?_
     rintro e w4 ⟨b, rfl, hb0, hb1, _, cc, GG⟩
     refine ⟨_, rfl, ?_⟩
     have J6 := hid (J5.out.turn GG cc)
     have N6 := row_chg N5 GG (fun (e : _ = C) => by have := J4.out.c.lt; omega)
     have hlt := hb1 (by decide)
     obtain ⟨k1, hk1⟩ : ∃ k : Nat, b = k := ⟨b.toNat, by omega⟩
     subst hk1
     have k10 : (0 : Int) ≤ (k1 : Int) := by omega
     have k11 : (k1 : Int) < 2 := hlt
     have k12 : k1 < 2 := by omega
     clear hb0 hb1 cc GG hlt
     refine hK.out _ _ (J6.out.cells.2) (fun hH2 => ?_)
     clear hK K hH
     have hH := hH2
     clear hH2
     try simp only [Act.put, List.setIfInBounds_toArray, List.set_cons_zero, List.set_cons_succ]
     refine rq 6 (by kernel_rfl) rfl (fun K hK => ?_)
     refine step_func rfl 22 [.tmp 33, .tmp 34] #[45, 50] rfl run22 [.pointer (some ⟨C, 0, none⟩), .slice (some ⟨wd.heap.size, 0, none⟩) 5 5] rfl (l1PickInt_any C wd.heap.size [-1, 0, 1, 199, 200] (by decide) (by decide) w4 J6.out.c N6 (by have := J6.out.c.lt; have := J4.out.c.lt; omega)) ?_
     rintro e w5 ⟨b, rfl, _, cc, GG⟩
     refine ⟨_, rfl, ?_⟩
     have J7 := hid (J6.out.turn GG cc)
     clear cc GG
     refine hK.out _ _ (J7.out.cells.2) (fun hH2 => ?_)
     clear hK K hH
     have hH := hH2
     clear hH2
     try simp only [Act.put, List.setIfInBounds_toArray, List.set_cons_zero, List.set_cons_succ]
     refine tq 7 rfl (by kernel_rfl) (fun _ _ _ h => h) (by assumption) rfl (by intro w h; go_simp <;> with_reducible rfl) ?_
     try simp only [Act.put, List.setIfInBounds_toArray, List.set_cons_zero, List.set_cons_succ]
     refine tq 8 rfl (by kernel_rfl) (fun _ _ _ h => h) (by assumption) rfl (by intro w h; go_simp <;> with_reducible rfl) ?_
     try simp only [Act.put, List.setIfInBounds_toArray, List.set_cons_zero, List.set_cons_succ]
     obtain ⟨_, _, ⟨x0, y0⟩, y1⟩ := J7.out.supAt hS2 k12
     refine rq 9 (by kernel_rfl) rfl (fun K hK => ?_)
     go_simp
     refine hK.out _ _ ((J7.out.sup hS2 hq2 (k1 * 2 + 1) (by omega) _).elim (fun _ h => h.cells.2)) (fun hH2 => ?_)
     clear hK K hH
     have hH := hH2
     clear hH2
     try simp only [Act.put, List.setIfInBounds_toArray, List.set_cons_zero, List.set_cons_succ]
     refine wpAnyH_done (by kernel_rfl) ?_ _
     go_wp2_with fail
     go_meet
     case rel => exact (J7.out.sup hS2 hq2 (k1 * 2 + 1) (by omega) _).elim (fun S' h => ⟨_, _, _, _, _, _, P, S', h⟩)
   ·go_wp2_with fail
    have J4 := hid (J3.out.low (Below.refl _ w3).drew)
    refine wp_region_held_drew (S := fun u => u.cell? ⟨ND, 0, none⟩ = some (.slice (some ⟨pg, 0, none⟩) 200 pq1)) (by kernel_rfl) J4.out.cells.1 (fun hH => ?_)
    generalize w3.drew = wd at *
    clear J3
    refine tq 0 rfl (by kernel_rfl) (fun _ _ _ h => h) (by assumption) rfl (by intro w h; go_simp <;> with_reducible rfl) ?_
    try simp only [Act.put, List.setIfInBounds_toArray, List.set_cons_zero, List.set_cons_succ]
    refine tq 1 rfl (by kernel_rfl) (fun _ _ _ h => h) (by assumption) rfl (by intro w h; go_simp <;> with_reducible rfl) ?_
    try simp only [Act.put, List.setIfInBounds_toArray, List.set_cons_zero, List.set_cons_succ]
    refine tq 2 rfl (by kernel_rfl) (fun _ _ _ h => h) (by assumption) rfl (by intro w h; go_simp <;> with_reducible rfl) ?_
    try simp only [Act.put, List.setIfInBounds_toArray, List.set_cons_zero, List.set_cons_succ]
    refine rq 3 (by kernel_rfl) rfl (fun K hK => ?_)
    refine step_func rfl 18 [.tmp 42, .const (.int .i64 9)] #[45, 3] rfl run18 [.pointer (some ⟨C, 0, none⟩), .int .i64 9] rfl (l1Below_any C 9 wd J4.out.c (by decide)) ?_
    rintro e w4 ⟨b, rfl, hb0, hb1, _, cc, GG⟩
    refine ⟨_, rfl, ?_⟩
    have J5 := hid (J4.out.turn GG cc)
    have hlt := hb1 (by decide)
    obtain ⟨k1, hk1⟩ : ∃ k : Nat, b = k := ⟨b.toNat, by omega⟩
    subst hk1
    have k10 : (0 : Int) ≤ (k1 : Int) := by omega
    have k11 : (k1 : Int) < 9 := hlt
    have k12 : k1 < 9 := by omega
    clear hb0 hb1 cc GG hlt
    refine hK.out _ _ (J5.out.cells.1) (fun hH2 => ?_)
    clear hK K hH
    have hH := hH2
    clear hH2
    try simp only [Act.put, List.setIfInBounds_toArray, List.set_cons_zero, List.set_cons_succ]
    have hk200 : (k1 : Int) < 200 := by omega
    refine tq 4 rfl (by kernel_rfl) (fun _ _ _ h => h) (by assumption) rfl (by intro w h; go_simp <;> with_reducible rfl) ?_
    try simp only [Act.put, List.setIfInBounds_toArray, List.set_cons_zero, List.set_cons_succ]
    obtain ⟨⟨x0, y0⟩, y1⟩ := J5.out.pageAt hP2 (show k1 < 200 by omega)
    refine rq 5 (by kernel_rfl) rfl (fun K hK => ?_)
    go_simp
    refine hK.out _ _ ((J5.out.page hP2 hp2 k1 (s := _) (by decide)).cells.1) (fun hH2 => ?_)
    clear hK K hH
    have hH := hH2
    clear hH2
    try simp only [Act.put, List.setIfInBounds_toArray, List.set_cons_zero, List.set_cons_succ]
    refine wpAnyH_done (by kernel_rfl) ?_ _
    go_wp2_with fail
    go_meet
    case rel => exact ⟨_, _, _, _, _, _, _, S, (J5.out.page hP2 hp2 k1 (s := _) (by decide))⟩
   ·obtain ⟨d0, d1⟩ := J3.out.cells
    have f1 : w3.frozen? ⟨ND, 1, none⟩ = false := frozen_of_cells J3.out.x
    go_wp2_with fail
    go_meet
    case rel => exact ⟨_, _, _, _, _, _, P, _, J3.out.cutS hS2 1 (by omega) (by omega)⟩
   ·go_wp2_with fail
    have J4 := hid (J3.out.low (Below.refl _ w3).drew)
    have hH := J4.out.cells.1
    clear J3
    refine wp_region_last (fun u => u.cell? ⟨ND, 0, none⟩ = some (.slice (some ⟨pg, 0, none⟩) 200 pq1)) [_, _, _, _, _, _] _ rfl (by kernel_rfl) (by kernel_rfl) ?_
    generalize w3.drew = wd at *
    refine tq 0 rfl (by kernel_rfl) (fun _ _ _ h => h) (by assumption) rfl (by intro w h; go_simp <;> with_reducible rfl) ?_
    try simp only [Act.put, List.setIfInBounds_toArray, List.set_cons_zero, List.set_cons_succ]
    refine tq 1 rfl (by kernel_rfl) (fun _ _ _ h => h) (by assumption) rfl (by intro w h; go_simp <;> with_reducible rfl) ?_
    try simp only [Act.put, List.setIfInBounds_toArray, List.set_cons_zero, List.set_cons_succ]
    refine tq 2 rfl (by kernel_rfl) (fun _ _ _ h => h) (by assumption) rfl (by intro w h; go_simp <;> with_reducible rfl) ?_
    try simp only [Act.put, List.setIfInBounds_toArray, List.set_cons_zero, List.set_cons_succ]
    refine rq 3 (by kernel_rfl) rfl (fun K hK => ?_)
    refine step_func rfl 18 [.tmp 55, .const (.int .i64 12)] #[45, 3] rfl run18 [.pointer (some ⟨C, 0, none⟩), .int .i64 12] rfl (l1Below_any C 12 wd J4.out.c (by decide)) ?_
    rintro e w4 ⟨b, rfl, hb0, hb1, _, cc, GG⟩
    refine ⟨_, rfl, ?_⟩
    have J5 := hid (J4.out.turn GG cc)
    have hlt := hb1 (by decide)
    obtain ⟨k1, hk1⟩ : ∃ k : Nat, b = k := ⟨b.toNat, by omega⟩
    subst hk1
    have k10 : (0 : Int) ≤ (k1 : Int) := by omega
    have k11 : (k1 : Int) < 12 := hlt
    have k12 : k1 < 12 := by omega
    clear hb0 hb1 cc GG hlt
    refine hK.out _ _ (J5.out.cells.1) (fun hH2 => ?_)
    clear hK K hH
    have hH := hH2
    clear hH2
    try simp only [Act.put, List.setIfInBounds_toArray, List.set_cons_zero, List.set_cons_succ]
    have hpc : (k1 : Int) ≤ (pq1 : Int) := by omega
    refine tq 4 rfl (by kernel_rfl) (fun _ _ _ h => h) (by assumption) rfl (by intro w h; go_simp <;> with_reducible rfl) ?_
    try simp only [Act.put, List.setIfInBounds_toArray, List.set_cons_zero, List.set_cons_succ]
    refine tq 5 rfl (by kernel_rfl) (fun _ _ _ h => h) (by assumption) rfl (by intro w h; go_simp <;> with_reducible rfl) ?_
    try simp only [Act.put, List.setIfInBounds_toArray, List.set_cons_zero, List.set_cons_succ]
    have f1 : w4.frozen? ⟨ND, 0, none⟩ = false := frozen_of_cells J5.out.x
    refine wpAnyH_done (by kernel_rfl) ?_ _
    show Oper.wp _ _ _ _ _ _
    go_simp
    go_wp2_with fail
    go_meet
    case rel => exact ⟨_, _, _, _, _, _, _, S, J5.out.cutP hP2 k1 (by omega) (by omega)⟩
   ·go_wp2_with fail
    have J4 := hid (J3.out.low (Below.refl _ w3).drew)
    refine wp_region_held_drew (S := fun u => u.cell? ⟨ND, 0, none⟩ = some (.slice (some ⟨pg, 0, none⟩) 200 pq1)) (by kernel_rfl) J4.out.cells.1 (fun hH => ?_)
    generalize w3.drew = wd at *
    clear J3
    refine tq 0 rfl (by kernel_rfl) (fun _ _ _ h => h) (by assumption) rfl (by intro w h; go_simp <;> with_reducible rfl) ?_
    try simp only [Act.put, List.setIfInBounds_toArray, List.set_cons_zero, List.set_cons_succ]
    refine tq 1 rfl (by kernel_rfl) (fun _ _ _ h => h) (by assumption) rfl (by intro w h; go_simp <;> with_reducible rfl) ?_
    try simp only [Act.put, List.setIfInBounds_toArray, List.set_cons_zero, List.set_cons_succ]
    refine tq 2 rfl (by kernel_rfl) (fun _ _ _ h => h) (by assumption) rfl (by intro w h; go_simp <;> with_reducible rfl) ?_
    try simp only [Act.put, List.setIfInBounds_toArray, List.set_cons_zero, List.set_cons_succ]
    refine wpAnyH_ready (rs := [3, 4]) (by kernel_rfl) (by simp) ?_
    refine AllReadyH.cons (o := ⟨_, _, _, _, _, _⟩) rfl (fun K hK => ?_) (AllReadyH.cons (o := ⟨_, _, _, _, _, _⟩) rfl (fun K hK => ?_) AllReadyH.nil)
    ·refine step_func rfl 18 [.tmp 63, .const (.int .i64 9)] #[45, 3] rfl run18 [.pointer (some ⟨C, 0, none⟩), .int .i64 9] rfl (l1Below_any C 9 wd J4.out.c (by decide)) ?_
     rintro e w4 ⟨b, rfl, hb0, hb1, _, cc, GG⟩
     refine ⟨_, rfl, ?_⟩
     have J5 := hid (J4.out.turn GG cc)
     have hlt := hb1 (by decide)
     obtain ⟨k1, hk1⟩ : ∃ k : Nat, b = k := ⟨b.toNat, by omega⟩
     subst hk1
     have k10 : (0 : Int) ≤ (k1 : Int) := by omega
     have k11 : (k1 : Int) < 9 := hlt
     have k12 : k1 < 9 := by omega
     clear hb0 hb1 cc GG hlt
     refine hK.out _ _ (J5.out.cells.1) (fun hH2 => ?_)
     clear hK K hH
     have hH := hH2
     clear hH2
     try simp only [Act.put, List.setIfInBounds_toArray, List.set_cons_zero, List.set_cons_succ]
     refine rq 4 (by kernel_rfl) rfl (fun K hK => ?_)
     go_simp
     have J6 := hid (J5.out.low (bel_new w4 (.cells #[.int .u8 0, .int .u8 4, .int .u8 0, .int .u8 2, .int .u8 10, .int .u8 0] 5)))
     have N5 := heap_alloc_new w4 (.cells #[.int .u8 0, .int .u8 4, .int .u8 0, .int .u8 2, .int .u8 10, .int .u8 0] 5)
     refine hK.out _ _ (J6.out.cells.1) (fun hH2 => ?_)
     clear hK K hH
     have hH := hH2
     clear hH2
     try simp only [Act.put, List.setIfInBounds_toArray, List.set_cons_zero, List.set_cons_succ]
     refine rq 5 (by kernel_rfl) rfl (fun K hK => ?_)
     have hcv := conv_own (base := 0) (l := [0, 4, 0, 2, 10, 0]) (own_lit (size := 1) (n := 6) N5 (Nat.zero_le _) (by decide) rfl)
     go_simp
     refine hK.out _ _ (J6.out.cells.1) (fun hH2 => ?_)
     clear hK K hH
     have hH := hH2
     clear hH2
     try simp only [Act.put, List.setIfInBounds_toArray, List.set_cons_zero, List.set_cons_succ]
     have hk200 : (k1 : Int) < 200 := by omega
     refine tq 6 rfl (by kernel_rfl) (fun _ _ _ h => h) (by assumption) rfl (by intro w h; go_simp <;> with_reducible rfl) ?_
     try simp only [Act.put, List.setIfInBounds_toArray, List.set_cons_zero, List.set_cons_succ]
     obtain ⟨⟨x0, y0⟩, y1⟩ := J6.out.pageAt hP2 (show k1 < 200 by omega)
     refine rq 7 (by kernel_rfl) rfl (fun K hK => ?_)
     go_simp
     refine hK.out _ _ ((J6.out.page hP2 hp2 k1 (s := _) (by decide)).cells.1) (fun hH2 => ?_)
     clear hK K hH
     have hH := hH2
     clear hH2
     try simp only [Act.put, List.setIfInBounds_toArray, List.set_cons_zero, List.set_cons_succ]
     refine wpAnyH_done (by kernel_rfl) ?_ _
     go_wp2_with fail
     go_meet
     case rel => exact ⟨_, _, _, _, _, _, _, S, (J6.out.page hP2 hp2 k1 (s := _) (by decide))⟩
    ·go_simp
     have J5 := hid (J4.out.low (bel_new wd (.cells #[.int .u8 0, .int .u8 4, .int .u8 0, .int .u8 2, .int .u8 10, .int .u8 0] 5)))
     have N5 := heap_alloc_new wd (.cells #[.int .u8 0, .int .u8 4, .int .u8 0, .int .u8 2, .int .u8 10, .int .u8 0] 5)
     refine hK.out _ _ (J5.out.cells.1) (fun hH2 => ?_)
     clear hK K hH
     have hH := hH2
     clear hH2
     try simp only [Act.put, List.setIfInBounds_toArray, List.set_cons_zero, List.set_cons_succ]
     refine wpAnyH_ready (rs := [3, 5]) (by kernel_rfl) (by simp) ?_
     refine AllReadyH.cons (o := ⟨_, _, _, _, _, _⟩) rfl (fun K hK => ?_) (AllReadyH.cons (o := ⟨_, _, _, _, _, _⟩) rfl (fun K hK => ?_) AllReadyH.nil)
     ·refine step_func rfl 18 [.tmp 63, .const (.int .i64 9)] #[45, 3] rfl run18 [.pointer (some ⟨C, 0, none⟩), .int .i64 9] rfl (l1Below_any C 9 (wd.alloc (.cells #[.int .u8 0, .int .u8 4, .int .u8 0, .int .u8 2, .int .u8 10, .int .u8 0] 5)) J5.out.c (by decide)) ?_
      rintro e w4 ⟨b, rfl, hb0, hb1, _, cc, GG⟩
      refine ⟨_, rfl, ?_⟩
      have J6 := hid (J5.out.turn GG cc)
      have N6 := row_chg N5 GG (fun (e : _ = C) => by have := J4.out.c.lt; omega)
      have hlt := hb1 (by decide)
      obtain ⟨k1, hk1⟩ : ∃ k : Nat, b = k := ⟨b.toNat, by omega⟩
      subst hk1
      have k10 : (0 : Int) ≤ (k1 : Int) := by omega
      have k11 : (k1 : Int) < 9 := hlt
      have k12 : k1 < 9 := by omega
      clear hb0 hb1 cc GG hlt
      refine hK.out _ _ (J6.out.cells.1) (fun hH2 => ?_)
      clear hK K hH
      have hH := hH2
      clear hH2
      try simp only [Act.put, List.setIfInBounds_toArray, List.set_cons_zero, List.set_cons_succ]
      refine rq 5 (by kernel_rfl) rfl (fun K hK => ?_)
      have hcv := conv_own (base := 0) (l := [0, 4, 0, 2, 10, 0]) (own_lit (size := 1) (n := 6) N6 (Nat.zero_le _) (by decide) rfl)
      go_simp
      refine hK.out _ _ (J6.out.cells.1) (fun hH2 => ?_)
      clear hK K hH
      have hH := hH2
      clear hH2
      try simp only [Act.put, List.setIfInBounds_toArray, List.set_cons_zero, List.set_cons_succ]
      have hk200 : (k1 : Int) < 200 := by omega
      refine tq 6 rfl (by kernel_rfl) (fun _ _ _ h => h) (by assumption) rfl (by intro w h; go_simp <;> with_reducible rfl) ?_
      try simp only [Act.put, List.setIfInBounds_toArray, List.set_cons_zero, List.set_cons_succ]
      obtain ⟨⟨x0, y0⟩, y1⟩ := J6.out.pageAt hP2 (show k1 < 200 by omega)
      refine rq 7 (by kernel_rfl) rfl (fun K hK => ?_)
      go_simp
      refine hK.out _ _ ((J6.out.page hP2 hp2 k1 (s := _) (by decide)).cells.1) (fun hH2 => ?_)
      clear hK K hH
      have hH := hH2
      clear hH2
      try simp only [Act.put, List.setIfInBounds_toArray, List.set_cons_zero, List.set_cons_succ]
      refine wpAnyH_done (by kernel_rfl) ?_ _
      go_wp2_with fail
      go_meet
      case rel => exact ⟨_, _, _, _, _, _, _, S, (J6.out.page hP2 hp2 k1 (s := _) (by decide))⟩
     ·have hcv := conv_own (base := 0) (l := [0, 4, 0, 2, 10, 0]) (own_lit (size := 1) (n := 6) N5 (Nat.zero_le _) (by decide) rfl)
      go_simp
      refine hK.out _ _ (J5.out.cells.1) (fun hH2 => ?_)
      clear hK K hH
      have hH := hH2
      clear hH2
      try simp only [Act.put, List.setIfInBounds_toArray, List.set_cons_zero, List.set_cons_succ]
      refine rq 3 (by kernel_rfl) rfl (fun K hK => ?_)
      refine step_func rfl 18 [.tmp 63, .const (.int .i64 9)] #[45, 3] rfl run18 [.pointer (some ⟨C, 0, none⟩), .int .i64 9] rfl (l1Below_any C 9 (wd.alloc (.cells #[.int .u8 0, .int .u8 4, .int .u8 0, .int .u8 2, .int .u8 10, .int .u8 0] 5)) J5.out.c (by decide)) ?_
      rintro e w4 ⟨b, rfl, hb0, hb1, _, cc, GG⟩
      refine ⟨_, rfl, ?_⟩
      have J6 := hid (J5.out.turn GG cc)
      have hlt := hb1 (by decide)
      obtain ⟨k1, hk1⟩ : ∃ k : Nat, b = k := ⟨b.toNat, by omega⟩
      subst hk1
      have k10 : (0 : Int) ≤ (k1 : Int) := by omega
      have k11 : (k1 : Int) < 9 := hlt
      have k12 : k1 < 9 := by omega
      clear hb0 hb1 cc GG hlt
      refine hK.out _ _ (J6.out.cells.1) (fun hH2 => ?_)
      clear hK K hH
      have hH := hH2
      clear hH2
      try simp only [Act.put, List.setIfInBounds_toArray, List.set_cons_zero, List.set_cons_succ]
      have hk200 : (k1 : Int) < 200 := by omega
      refine tq 6 rfl (by kernel_rfl) (fun _ _ _ h => h) (by assumption) rfl (by intro w h; go_simp <;> with_reducible rfl) ?_
      try simp only [Act.put, List.setIfInBounds_toArray, List.set_cons_zero, List.set_cons_succ]
      obtain ⟨⟨x0, y0⟩, y1⟩ := J6.out.pageAt hP2 (show k1 < 200 by omega)
      refine rq 7 (by kernel_rfl) rfl (fun K hK => ?_)
      go_simp
      refine hK.out _ _ ((J6.out.page hP2 hp2 k1 (s := _) (by decide)).cells.1) (fun hH2 => ?_)
      clear hK K hH
      have hH := hH2
      clear hH2
      try simp only [Act.put, List.setIfInBounds_toArray, List.set_cons_zero, List.set_cons_succ]
      refine wpAnyH_done (by kernel_rfl) ?_ _
      go_wp2_with fail
      go_meet
      case rel => exact ⟨_, _, _, _, _, _, _, S, (J6.out.page hP2 hp2 k1 (s := _) (by decide))⟩
   ·have g0 : ((kb : Int) == 0) = false := by rw [beq_eq_false_iff_ne]; omega
    have g1 : ((kb : Int) == 1) = false := by rw [beq_eq_false_iff_ne]; omega
    have g2 : ((kb : Int) == 2) = false := by rw [beq_eq_false_iff_ne]; omega
    have g3 : ((kb : Int) == 3) = false := by rw [beq_eq_false_iff_ne]; omega
    have g4 : ((kb : Int) == 4) = false := by rw [beq_eq_false_iff_ne]; omega
    have g5 : ((kb : Int) == 5) = false := by rw [beq_eq_false_iff_ne]; omega
    go_wp2_with fail
    go_meet
    case rel => exact ⟨_, _, _, _, _, _, P, S, J3.out⟩
  case rest =>
   obtain ⟨pa1, pa2, pn, sn, pq1, pq2, P, S, J⟩ := hcut
   obtain ⟨⟨d0, d1⟩, ⟨r0, r1, f0, f1⟩, n0, n1⟩ := CLS.out wc _ _ _ _ _ _ _ _ J.out
   go_wp2
   refine bodyPost_ret (v := .agg #[.slice pa1 pn pq1, .slice pa2 sn pq2]) (by simp [results, Try.results25, go_sem, n0, n1]) rfl ⟨_, P, S, rfl, FIN.out _ _ _ _ _ _ _ _ _ J.out⟩
end
end Go.Proofs.Ytekcnibohikmdaa
