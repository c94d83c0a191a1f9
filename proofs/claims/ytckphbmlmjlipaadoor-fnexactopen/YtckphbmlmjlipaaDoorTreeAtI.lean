/-
  The program's treeAt: a tree read out of pages.
-/
import Derived.Test.YtckphbmlmjlipaaDoorPart6
import Derived.Test.YtckphbmlmjlipaaDoorPart7
import Derived.Test.YtckphbmlmjlipaaDoorPart2
namespace Go.Proofs.YtckphbmlmjlipaaDoor
open Go.RowKit

def TreeRd (ea : Addr) (base d : Nat) (g : Option Tr) (e : Ending) (w' : World) : Prop := match g with
  | none => e = .panicked (boom ea)
  | some T => ∃ x : TV, e = .returned x.val ∧ TreeD d w' (Zone base w'.heap.size) x T
theorem TreeRd.none {ea : Addr} {base d : Nat} {g : Option Tr} {w' : World} (h : g = .none) : TreeRd ea base d g (.panicked (boom ea)) w' := by subst h; rfl

def setT (w : World) (M j : Nat) (x : TV) : World := ((((w.setCell ⟨M, j * 5, .none⟩ (.bool x.lf)).setCell ⟨M, j * 5 + 1, .none⟩ x.p).setCell ⟨M, j * 5 + 2, .none⟩ x.c).setCell ⟨M, j * 5 + 3, .none⟩ x.k).setCell ⟨M, j * 5 + 4, .none⟩ x.b
theorem setT_chg (w : World) (M j : Nat) (x : TV) : Chg (fun g => g = M) w (setT w M j x) :=
  (((((Chg.refl (fun g => g = M) w).setAt M _ rfl _).setAt M _ rfl _).setAt M _ rfl _).setAt M _ rfl _).setAt M _ rfl _
theorem setT_size (w : World) (M j : Nat) (x : TV) : (setT w M j x).heap.size = w.heap.size := by simp [setT]
theorem slot_set {w : World} {N M n j : Nat} {xs : List TV} {x : TV} (h : w.ownsRow N 32 5 (.slice (some ⟨M, 0, .none⟩) n n) n (flatT (xs ++ List.replicate (n - j) zeroTV))) (hj : j < n) (hx : xs.length = j) :
    (w.cell? ⟨M, j * 5, .none⟩ = some (.bool false) ∧ w.cell? ⟨M, j * 5 + 1, .none⟩ = some (.slice .none 0 0) ∧ w.cell? ⟨M, j * 5 + 2, .none⟩ = some (.slice .none 0 0) ∧ w.cell? ⟨M, j * 5 + 3, .none⟩ = some (.slice .none 0 0) ∧ w.cell? ⟨M, j * 5 + 4, .none⟩ = some (.slice .none 0 0)) ∧
      (∀ i, w.frozen? ⟨M, i, .none⟩ = false) ∧ (setT w M j x).ownsRow N 32 5 (.slice (some ⟨M, 0, .none⟩) n n) n (flatT ((xs ++ [x]) ++ List.replicate (n - (j + 1)) zeroTV)) := by
  have hl : (xs ++ List.replicate (n - j) zeroTV).length = n := by simp; omega
  have hat := flatT_at (xs ++ List.replicate (n - j) zeroTV) j (by omega)
  have ez : tvAt (xs ++ List.replicate (n - j) zeroTV) j = zeroTV := by
    simp [tvAt, List.getD, hx, show 0 < n - j by omega]
  rw [ez] at hat
  refine ⟨⟨(h.cellAt (j * 5) (by omega)).trans hat.1, (h.cellAt (j * 5 + 1) (by omega)).trans hat.2.1, (h.cellAt (j * 5 + 2) (by omega)).trans hat.2.2.1, (h.cellAt (j * 5 + 3) (by omega)).trans hat.2.2.2.1, (h.cellAt (j * 5 + 4) (by omega)).trans hat.2.2.2.2⟩, fun i => h.frozenAt i, ?_⟩
  have st := ((((((h.stored (j * 5) (.bool x.lf)).1.stored (j * 5 + 1) x.p).1.stored (j * 5 + 2) x.c).1.stored (j * 5 + 3) x.k).1.stored (j * 5 + 4) x.b)).1
  rw [flatT_set _ _ j (by omega)] at st
  have e : (xs ++ List.replicate (n - j) zeroTV).set j x = (xs ++ [x]) ++ List.replicate (n - (j + 1)) zeroTV := by
    obtain ⟨m, hm⟩ : ∃ m, n - j = m + 1 := ⟨n - j - 1, by omega⟩
    rw [hm, show n - (j + 1) = m by omega, List.replicate_succ, List.set_append_right _ _ (by omega), hx, Nat.sub_self]
    simp
  rw [e] at st
  exact st

theorem wrap_small (n : Int) (h0 : 0 ≤ n) (h1 : n ≤ 100) : IntKind.i64.wrap n = n := by
  rw [IntKind.wrap_i64]
  omega
theorem TreeD.slices {n : Nat} {w : World} {F : Nat → Prop} {x : TV} {T : Tr} (h : TreeD n w F x T) :
    (∃ a k c, x.p = .slice a k c) ∧ (∃ a k c, x.c = .slice a k c) ∧ (∃ a k c, x.k = .slice a k c) ∧ (∃ a k c, x.b = .slice a k c) ∧ True := by
  cases n with
  | zero => exact h.elim
  | succ n =>
    obtain ⟨_, h2, h3, h4, _, xs, _, _, k2, _⟩ := h
    obtain ⟨a1, c1, e1⟩ := h2.slice
    obtain ⟨a2, c2, e2⟩ := h3.slice
    obtain ⟨a3, c3, e3⟩ := k2.slice
    obtain ⟨a4, c4, e4⟩ := h4.slice
    exact ⟨⟨a1, _, c1, e1⟩, ⟨a2, _, c2, e2⟩, ⟨a3, _, c3, e3⟩, ⟨a4, _, c4, e4⟩, trivial⟩

theorem run_treeAt (args : Array Value) (w : World) : (callFunc 23 args).run Tryd.prog w = .ok (.enter 23 args) w := by go_simp

set_option maxRecDepth 100000 in
set_option maxHeartbeats 1000000 in
theorem treeAt_step (ea : Addr) (v : Value) (l : List ByteArray) (hz : ∀ s ∈ l, s.size ≤ maxLen) (d : Nat) (a dp : Int) (w : World) (hd : dp + d = 8) (hd8 : d ≤ 8) (hr : Row w v l.length (flatS l)) (he : ErrIs ea w)
    (IH : ∀ (d' : Nat), d = d' + 1 → ∀ (a : Int) (w : World), Row w v l.length (flatS l) → ErrIs ea w → Calls Tryd.prog 23 #[v, .int .i64 a, .int .i64 (dp + 1)] w fun e w' => TreeRd ea w.heap.size d' (readR (pgB l) d' a) e w' ∧ Below w.heap.size w w') :
    Calls Tryd.prog 23 #[v, .int .i64 a, .int .i64 dp] w fun e w' => TreeRd ea w.heap.size d (readR (pgB l) d a) e w' ∧ Below w.heap.size w w' := by
  obtain ⟨av, bv, ov, cv, hv, _⟩ := id hr
  have b1 : Below w.heap.size w (w.alloc (.cells #[.bool false, .slice none 0 0, .slice none 0 0, .slice none 0 0, .slice none 0 0] 32)) := bel_new _ _
  have n1 : BoxIs (w.alloc (.cells #[.bool false, .slice none 0 0, .slice none 0 0, .slice none 0 0, .slice none 0 0] 32)) w.heap.size (.bool false) (.slice none 0 0) (.slice none 0 0) (.slice none 0 0) (.slice none 0 0) := heap_alloc_new _ _
  generalize hW1 : w.alloc (.cells #[.bool false, .slice none 0 0, .slice none 0 0, .slice none 0 0, .slice none 0 0] 32) = W1 at b1 n1
  have s1 : W1.heap.size = w.heap.size + 1 := by rw [← hW1]; simp
  have E1 : Hid (w.alloc (.cells #[.bool false, .slice none 0 0, .slice none 0 0, .slice none 0 0, .slice none 0 0] 32) = W1) := hW1
  have R1 := hr.below b1
  have e1 := he.below b1
  have HH : Hid _ := And.intro R1 (And.intro e1 (And.intro b1 n1))
  have HI : Hid _ := IH
  have HR : Hid _ := And.intro hr he
  clear hW1 b1 n1 R1 e1 hr he IH
  subst hv
  go_enter Tryd.func23, Tryd.ntmps23
  go_wp2_with fail
  rw [E1.out]
  refine (nodeAt_any ea _ l a dp W1 HH.out.1 hz HH.out.2.1).mono ?_
  rintro e w2 ⟨hn, hB⟩
  have B2 : Below w.heap.size w w2 := Below.and HH.out.2.2.1 hB
  by_cases hin : dp ≤ 7 ∧ 0 ≤ a ∧ a < (l.length : Int)
  · unfold NodeRd at hn
    rw [if_pos hin] at hn
    obtain ⟨d', rfl⟩ : ∃ d', d = d' + 1 := ⟨d - 1, by omega⟩
    have ha : 0 ≤ a ∧ a < ((pgB l).length : Int) := by rw [pgB_length]; exact hin.2
    have HP : Hid ((pgB l).getD a.toNat [] = bytesOf (sOf l a.toNat)) := pgB_at l a.toNat (by omega)
    have x2 := HH.out.2.2.2.chg (Chg.of_below (F := fun _ => False) hB) id
    have e2 := HH.out.2.1.below hB
    have R2 := HH.out.1.below hB
    have hs2 : w.heap.size + 1 ≤ w2.heap.size := by have := hB.size; omega
    obtain ⟨t0, z, a1, a2, a3, a4, ak, m1, m2, m3, m4, mk, q1, q2, q3, q4, qk, hsh⟩ := hn.shape
    subst hsh
    have B4 : Below w2.heap.size w2 (w2.alloc (.cells #[.bool t0, .slice a1 m1 q1, .slice a2 m2 q2, .slice a3 m3 q3, .slice a4 m4 q4] 32)) := bel_new _ _
    have x4 : BoxIs (w2.alloc (.cells #[.bool t0, .slice a1 m1 q1, .slice a2 m2 q2, .slice a3 m3 q3, .slice a4 m4 q4] 32)) w2.heap.size (.bool t0) (.slice a1 m1 q1) (.slice a2 m2 q2) (.slice a3 m3 q3) (.slice a4 m4 q4) := heap_alloc_new _ _
    generalize hW4 : w2.alloc (.cells #[.bool t0, .slice a1 m1 q1, .slice a2 m2 q2, .slice a3 m3 q3, .slice a4 m4 q4] 32) = W4 at B4 x4
    have z4 : W4.heap.size = w2.heap.size + 1 := by rw [← hW4]; simp
    have E4 : Hid (w2.alloc (.cells #[.bool t0, .slice a1 m1 q1, .slice a2 m2 q2, .slice a3 m3 q3, .slice a4 m4 q4] 32) = W4) := hW4
    have HB4 : Hid _ := B4
    have y4 := x2.chg (Chg.of_below (F := fun _ => False) B4) id
    have e4 := e2.below B4
    have R4 := R2.below B4
    have G : Hid _ := And.intro hn (And.intro x4 (And.intro y4 (And.intro e4 (And.intro R4 (Below.and B2 B4)))))
    clear x4 y4 e4 R4 B4 B2 hn hW4 x2 e2 R2 hB HH E1
    rw [s1] at G
    go_wp2_with fail
    rw [E4.out]
    clear E4
    cases hg : getNodeF ((pgB l).getD a.toNat []) with
    | none =>
      have hz0 := G.out.1
      rw [hg] at hz0
      have hz1 : (Ending.returned (.tuple #[.agg #[.bool t0, .slice a1 m1 q1, .slice a2 m2 q2, .slice a3 m3 q3, .slice a4 m4 q4], .slice ak mk qk, .bool z])) = .returned (.tuple #[treeZ, .slice none 0 0, .bool false]) := hz0
      have hz2 : z = false := by simp at hz1; exact hz1.2.2
      subst hz2
      refine (demand_no rfl ea _ G.out.2.2.2.1).mono ?_
      rintro e w5 ⟨rfl, rfl⟩
      go_wp2
      exact ⟨rfl, TreeRd.none (readR_bad hg), G.out.2.2.2.2.2⟩
    | some n =>
      have hz0 := G.out.1
      rw [hg] at hz0
      obtain ⟨vt, vk, hsh, N4⟩ := hz0
      have hsh2 : (.agg #[.bool t0, .slice a1 m1 q1, .slice a2 m2 q2, .slice a3 m3 q3, .slice a4 m4 q4] = vt) ∧ .slice ak mk qk = vk ∧ z = true := by simpa using hsh
      obtain ⟨rfl, rfl, rfl⟩ := hsh2
      refine (demand_yes rfl _).mono ?_
      rintro e w5 ⟨rfl, rfl⟩
      cases n with
      | inl ps =>
        obtain ⟨vp, hv1, hv2, ho⟩ := N4
        have ho := ho.below HB4.out
        have hv3 : t0 = true ∧ .slice a1 m1 q1 = vp ∧ (a2 = Option.none ∧ m2 = 0 ∧ q2 = 0) ∧ (a3 = Option.none ∧ m3 = 0 ∧ q3 = 0) ∧ (a4 = Option.none ∧ m4 = 0 ∧ q4 = 0) := by simpa using hv1
        have hv4 : ak = Option.none ∧ mk = 0 ∧ qk = 0 := by simpa using hv2
        obtain ⟨rfl, rfl, ⟨rfl, rfl, rfl⟩, ⟨rfl, rfl, rfl⟩, ⟨rfl, rfl, rfl⟩⟩ := hv3
        obtain ⟨rfl, rfl, rfl⟩ := hv4
        clear hv1 hv2 hsh
        obtain ⟨u0, u1, u2, u3, u4⟩ := G.out.2.1.cell
        obtain ⟨o0, o1, o2, o3, o4⟩ := G.out.2.2.1.cell
        have f6 := G.out.2.2.1.live
        have s5 := set5_chg W4 w.heap.size (.bool true) (.slice a1 m1 q1) (.slice none 0 0) (.slice none 0 0) (.slice none 0 0)
        have x5 := G.out.2.2.1.set (.bool true) (.slice a1 m1 q1) (.slice none 0 0) (.slice none 0 0) (.slice none 0 0)
        have B5 : Below w.heap.size w (set5 W4 w.heap.size (.bool true) (.slice a1 m1 q1) (.slice none 0 0) (.slice none 0 0) (.slice none 0 0)) := G.out.2.2.2.2.2.trans (s5.below (fun g _ hg => by omega) G.out.2.2.2.2.2.size)
        have T5 := (TreeD.leaf ((ho.chg s5 (fun g hg e => by have := (ho.lt g hg).1; omega)).mono (Nat.le_succ _))).le (m := d' + 1) (by omega)
        unfold set5 at x5 B5 T5
        obtain ⟨v0, v1, v2, v3, v4⟩ := x5.cell
        have HT : Hid _ := And.intro T5 B5
        have HL : Hid _ := readR_leaf (d := d') ha hg
        clear T5 B5 x5 s5 ho hg G
        go_wp2_with fail
        go_loopw [24] (fun i wr => i = .int .i64 0 ∧ wr = W4) (fun _ _ => 0)
        case atStart => exact ⟨rfl, rfl⟩
        case round =>
          obtain ⟨rfl, rfl⟩ := hrel
          go_wp2
          simp [bodyPost, results, Tryd.results23, go_sem, v0, v1, v2, v3, v4]
          rw [HL.out]
          exact ⟨⟨⟨true, .slice a1 m1 q1, .slice none 0 0, .slice none 0 0, .slice none 0 0⟩, rfl, HT.out.1⟩, HT.out.2⟩
      | inr f =>
        obtain ⟨vc, vb, M, N, hv1, hN, hvk, hvl, hvc, hvb, hNM, hM⟩ := N4
        have hv3 : t0 = false ∧ (a1 = Option.none ∧ m1 = 0 ∧ q1 = 0) ∧ .slice a2 m2 q2 = vc ∧ (a3 = some ⟨M, 0, Option.none⟩ ∧ m3 = f.kids.length ∧ q3 = f.kids.length) ∧ .slice a4 m4 q4 = vb := by simpa using hv1
        obtain ⟨rfl, ⟨rfl, rfl, rfl⟩, rfl, ⟨rfl, rfl, rfl⟩, rfl⟩ := hv3
        clear hv1 hsh
        have hml : mk = f.kids.length := by
          obtain ⟨_, _, e⟩ := owns_val hvk
          simp at e; exact e.2.1
        subst hml
        have hl4 : M < w2.heap.size := (Array.getElem?_eq_some_iff.1 hM).1
        have hM := (HB4.out.block M hl4).trans hM
        have hvcl : ∀ g, wrB (.slice a2 m2 q2) g → g < w2.heap.size := fun g hg => ((OwnE.mono (.inl hvc) (Nat.le_refl N)).lt g hg).2
        have hvbl : ∀ g, wrB (.slice a4 m4 q4) g → g < w2.heap.size := fun g hg => (hvb.lt g hg).2
        have hvk := owns_chg hvk (Chg.of_below (F := fun _ => False) HB4.out) (fun _ _ e => e)
        have hvc := owns_chg hvc (Chg.of_below (F := fun _ => False) HB4.out) (fun _ _ e => e)
        have hvb := hvb.below HB4.out
        obtain ⟨u0, u1, u2, u3, u4⟩ := G.out.2.1.cell
        have hok := (getNodeF_put (by rw [HP.out]; exact bytesOf_in _) hg).2.2
        have hn10 : f.kids.length ≤ 10 := by
          have := hok
          simp [okV] at this
          omega
        have K4 := owns_mono (kids_own hM hn10) hNM
        have HF : Hid _ := And.intro hN (And.intro hvk (And.intro hvl (And.intro hvc (And.intro hvb (And.intro hNM (And.intro hok (And.intro hM (And.intro hvcl hvbl))))))))
        clear hok hvk hvl hvc hvb hM hvcl hvbl
        go_wp2_with fail
        go_loopw [24] (fun i wr => ∃ (j : Nat) (xs : List TV) (ts : List Tr), j ≤ f.kids.length ∧ i = .int .i64 j ∧ xs.length = j ∧ Hid (kidsR (readR (pgB l) d') (f.kids.take j) = some ts ∧ TreesD d' wr W4.heap.size xs ts ∧ wr.ownsRow N 32 5 (.slice (some ⟨M, 0, Option.none⟩) f.kids.length f.kids.length) f.kids.length (flatT (xs ++ List.replicate (f.kids.length - j) zeroTV)) ∧ Chg (fun g => g = M) W4 wr ∧ W4.heap.size ≤ wr.heap.size)) (fun i _ => f.kids.length - (intOf i).toNat)
        case atStart => exact ⟨0, [], [], Nat.zero_le _, rfl, rfl, rfl, TreesD.nil _ _ _ (Nat.le_refl _), K4, Chg.refl _ _, Nat.le_refl _⟩
        case round =>
          obtain ⟨j, xs, ts, hj, rfl, hxl, hI⟩ := hrel
          by_cases hlt : j < f.kids.length
          · obtain ⟨i1, i2, i3, i4, i5⟩ := hI.out
            obtain ⟨f1, f2, f3, f4, f5, f6, f7, f8, f9, f10⟩ := HF.out
            have vk5 := owns_chg f2 i4 (fun g hg e => by have := f3 g hg; omega)
            have hex : ∃ g, ak = some ⟨g, 0, Option.none⟩ := by
              obtain ⟨_, ⟨e, e2⟩ | ⟨g, cap', cur, e, _⟩⟩ := vk5
              · omega
              · simp at e; exact ⟨g, e.1⟩
            obtain ⟨gk, rfl⟩ := hex
            have ck := (vk5.cellAt j (by omega)).trans (flatI_atI f.kids j hlt)
            have x5 := G.out.2.1.chg i4 (by omega)
            have u3' := x5.cell.2.2.2.1
            have B5 : Below w.heap.size w wr := G.out.2.2.2.2.2.trans (i4.below (fun g _ hg => by omega) (by have := G.out.2.2.2.2.2.size; omega))
            have HC : Hid (Calls Tryd.prog 23 #[.slice av l.length cv, .int .i64 (iAt f.kids j), .int .i64 (dp + 1)] wr.drew fun e w' => TreeRd ea wr.drew.heap.size d' (readR (pgB l) d' (iAt f.kids j)) e w' ∧ Below wr.drew.heap.size wr.drew w') := HI.out d' rfl (iAt f.kids j) wr.drew (HR.out.1.below (Below.drew B5)) (HR.out.2.below (Below.drew B5))
            have hdp : dp ≤ 7 := hin.1
            have hdp0 : 0 ≤ dp := by omega
            have hw : IntKind.i64.wrap (dp + 1) = dp + 1 := wrap_small (dp + 1) (by omega) (by omega)
            rw [← hw] at HC
            clear hw
            cases hkid : readR (pgB l) d' (iAt f.kids j) with
            | none =>
              rw [hkid] at HC
              have HX : Hid (readR (pgB l) (d' + 1) a = Option.none) := by
                show _ = _
                rw [readR_fork (d := d') ha hg, kidsR_none j hlt hkid]; rfl
              generalize iAt f.kids j = kv at *
              have HB5 : Hid _ := B5
              have KEEP : Hid (∀ u, Below wr.heap.size wr u → (fun u => u.cell? ⟨w2.heap.size, 3, none⟩ = some (.slice (some ⟨M, 0, Option.none⟩) f.kids.length f.kids.length)) u) := fun u hu => (x5.chg (Chg.of_below (F := fun _ => False) hu) id).cell.2.2.2.1
              clear i1 i2 i3 i4 i5 f1 f2 f3 f4 f5 f6 f7 f8 f9 f10 vk5 x5 B5 hI HF K4 G
              have hb1 : (0 : Int) ≤ (j : Int) := by omega
              have hb2 : (j : Int) < (f.kids.length : Int) := by omega
              have hn63 : (f.kids.length : Int) ≤ 100 := by omega
              go_wp2_with fail
              have SL : Hid (Below wr.heap.size wr wr.drew) := (Below.refl _ _).drew
              refine wp_region_held_drew (S := (fun u => u.cell? ⟨w2.heap.size, 3, none⟩ = some (.slice (some ⟨M, 0, Option.none⟩) f.kids.length f.kids.length))) (by kernel_rfl) (KEEP.out _ SL.out) (fun hH => ?_)
              refine wpAnyH_take (i := 0) (oi := ⟨_, _, _, _, _, _⟩) (v := ?_) rfl (by kernel_rfl) (by kernel_rfl) (by kernel_rfl) (fun _ _ _ h => h) (Or.inl ⟨by rfl, ?_⟩) (by assumption) ?_
              rotate_left
              · ((intro w hSw; (try dsimp only at hSw); go_simp); (try with_reducible rfl))
              try simp only [Act.put, List.setIfInBounds_toArray, List.set_cons_zero, List.set_cons_succ]
              refine wpAnyH_take (i := 1) (oi := ⟨_, _, _, _, _, _⟩) (v := ?_) rfl (by kernel_rfl) (by kernel_rfl) (by kernel_rfl) (fun _ _ _ h => h) (Or.inl ⟨by rfl, ?_⟩) (by assumption) ?_
              rotate_left
              · ((intro w hSw; (try dsimp only at hSw); go_simp); (try with_reducible rfl))
              try simp only [Act.put, List.setIfInBounds_toArray, List.set_cons_zero, List.set_cons_succ]
              refine wpAnyH_take (i := 2) (oi := ⟨_, _, _, _, _, _⟩) (v := ?_) rfl (by kernel_rfl) (by kernel_rfl) (by kernel_rfl) (fun _ _ _ h => h) (Or.inl ⟨by rfl, ?_⟩) (by assumption) ?_
              rotate_left
              · ((intro w hSw; (try dsimp only at hSw); go_simp); (try with_reducible rfl))
              try simp only [Act.put, List.setIfInBounds_toArray, List.set_cons_zero, List.set_cons_succ]
              refine wpAnyH_take (i := 3) (oi := ⟨_, _, _, _, _, _⟩) (v := ?_) rfl (by kernel_rfl) (by kernel_rfl) (by kernel_rfl) (fun _ _ _ h => h) (Or.inl ⟨by rfl, ?_⟩) (by assumption) ?_
              rotate_left
              · ((intro w hSw; (try dsimp only at hSw); go_simp); (try with_reducible rfl))
              try simp only [Act.put, List.setIfInBounds_toArray, List.set_cons_zero, List.set_cons_succ]
              refine wpAnyH_take (i := 4) (oi := ⟨_, _, _, _, _, _⟩) (v := ?_) rfl (by kernel_rfl) (by kernel_rfl) (by kernel_rfl) (fun _ _ _ h => h) (Or.inl ⟨by rfl, ?_⟩) (by assumption) ?_
              rotate_left
              · ((intro w hSw; (try dsimp only at hSw); go_simp); (try with_reducible rfl))
              try simp only [Act.put, List.setIfInBounds_toArray, List.set_cons_zero, List.set_cons_succ]
              refine wpAnyH_take (i := 5) (oi := ⟨_, _, _, _, _, _⟩) (v := ?_) rfl (by kernel_rfl) (by kernel_rfl) (by kernel_rfl) (fun _ _ _ h => h) (Or.inl ⟨by rfl, ?_⟩) (by assumption) ?_
              rotate_left
              · ((intro w hSw; (try dsimp only at hSw); go_simp); (try with_reducible rfl))
              try simp only [Act.put, List.setIfInBounds_toArray, List.set_cons_zero, List.set_cons_succ]
              refine wpAnyH_take (i := 6) (oi := ⟨_, _, _, _, _, _⟩) (v := ?_) rfl (by kernel_rfl) (by kernel_rfl) (by kernel_rfl) (fun _ _ _ h => h) (Or.inl ⟨by rfl, ?_⟩) (by assumption) ?_
              rotate_left
              · ((intro w hSw; (try dsimp only at hSw); go_simp); (try with_reducible rfl))
              try simp only [Act.put, List.setIfInBounds_toArray, List.set_cons_zero, List.set_cons_succ]
              refine wpAnyH_ready (rs := [7]) (by kernel_rfl) (by simp) ?_
              refine AllReadyH.cons (o := ⟨_, _, _, _, _, _⟩) rfl (fun K hK => ?_) AllReadyH.nil
              refine (if_pos (show Region.wanted _ _ = true by kernel_rfl)).mpr ?_
              refine end_call 23 [.tmp 32, .tmp 33, .tmp 35] #[22, 3, 3] rfl run_treeAt _ rfl HC.out ?_
              rintro e w5 ⟨h5, b5⟩
              have h5' : e = .panicked (boom ea) := h5
              subst h5'
              have HB6 : Below w.heap.size w w5 := (Below.drew HB5.out).trans (b5.mono (by have := HB5.out.size; simpa using this))
              exact .inr ⟨_, rfl, ⟨rfl, TreeRd.none HX.out, HB6⟩⟩
            | some t =>
              rw [hkid] at HC
              have HK : Hid _ := kidsR_step hlt i1 hkid
              generalize iAt f.kids j = kv at *
              have KEEP : Hid (∀ u, Below wr.heap.size wr u → (fun u => u.cell? ⟨w2.heap.size, 3, none⟩ = some (.slice (some ⟨M, 0, Option.none⟩) f.kids.length f.kids.length)) u) := fun u hu => (x5.chg (Chg.of_below (F := fun _ => False) hu) id).cell.2.2.2.1
              have II : Hid _ := And.intro i2 (And.intro i3 (And.intro i4 (And.intro i5 (And.intro x5 B5))))
              clear i1 i2 i3 i4 i5 f1 f2 f3 f4 f5 f6 f7 f8 f9 f10 vk5 x5 B5 hI HF K4 G
              have hb1 : (0 : Int) ≤ (j : Int) := by omega
              have hb2 : (j : Int) < (f.kids.length : Int) := by omega
              have hn63 : (f.kids.length : Int) ≤ 100 := by omega
              go_wp2_with fail
              have SL : Hid (Below wr.heap.size wr wr.drew) := (Below.refl _ _).drew
              refine wp_region_held_drew (S := (fun u => u.cell? ⟨w2.heap.size, 3, none⟩ = some (.slice (some ⟨M, 0, Option.none⟩) f.kids.length f.kids.length))) (by kernel_rfl) (KEEP.out _ SL.out) (fun hH => ?_)
              refine wpAnyH_take (i := 0) (oi := ⟨_, _, _, _, _, _⟩) (v := ?_) rfl (by kernel_rfl) (by kernel_rfl) (by kernel_rfl) (fun _ _ _ h => h) (Or.inl ⟨by rfl, ?_⟩) (by assumption) ?_
              rotate_left
              · ((intro w hSw; (try dsimp only at hSw); go_simp); (try with_reducible rfl))
              try simp only [Act.put, List.setIfInBounds_toArray, List.set_cons_zero, List.set_cons_succ]
              refine wpAnyH_take (i := 1) (oi := ⟨_, _, _, _, _, _⟩) (v := ?_) rfl (by kernel_rfl) (by kernel_rfl) (by kernel_rfl) (fun _ _ _ h => h) (Or.inl ⟨by rfl, ?_⟩) (by assumption) ?_
              rotate_left
              · ((intro w hSw; (try dsimp only at hSw); go_simp); (try with_reducible rfl))
              try simp only [Act.put, List.setIfInBounds_toArray, List.set_cons_zero, List.set_cons_succ]
              refine wpAnyH_take (i := 2) (oi := ⟨_, _, _, _, _, _⟩) (v := ?_) rfl (by kernel_rfl) (by kernel_rfl) (by kernel_rfl) (fun _ _ _ h => h) (Or.inl ⟨by rfl, ?_⟩) (by assumption) ?_
              rotate_left
              · ((intro w hSw; (try dsimp only at hSw); go_simp); (try with_reducible rfl))
              try simp only [Act.put, List.setIfInBounds_toArray, List.set_cons_zero, List.set_cons_succ]
              refine wpAnyH_take (i := 3) (oi := ⟨_, _, _, _, _, _⟩) (v := ?_) rfl (by kernel_rfl) (by kernel_rfl) (by kernel_rfl) (fun _ _ _ h => h) (Or.inl ⟨by rfl, ?_⟩) (by assumption) ?_
              rotate_left
              · ((intro w hSw; (try dsimp only at hSw); go_simp); (try with_reducible rfl))
              try simp only [Act.put, List.setIfInBounds_toArray, List.set_cons_zero, List.set_cons_succ]
              refine wpAnyH_take (i := 4) (oi := ⟨_, _, _, _, _, _⟩) (v := ?_) rfl (by kernel_rfl) (by kernel_rfl) (by kernel_rfl) (fun _ _ _ h => h) (Or.inl ⟨by rfl, ?_⟩) (by assumption) ?_
              rotate_left
              · ((intro w hSw; (try dsimp only at hSw); go_simp); (try with_reducible rfl))
              try simp only [Act.put, List.setIfInBounds_toArray, List.set_cons_zero, List.set_cons_succ]
              refine wpAnyH_take (i := 5) (oi := ⟨_, _, _, _, _, _⟩) (v := ?_) rfl (by kernel_rfl) (by kernel_rfl) (by kernel_rfl) (fun _ _ _ h => h) (Or.inl ⟨by rfl, ?_⟩) (by assumption) ?_
              rotate_left
              · ((intro w hSw; (try dsimp only at hSw); go_simp); (try with_reducible rfl))
              try simp only [Act.put, List.setIfInBounds_toArray, List.set_cons_zero, List.set_cons_succ]
              refine wpAnyH_take (i := 6) (oi := ⟨_, _, _, _, _, _⟩) (v := ?_) rfl (by kernel_rfl) (by kernel_rfl) (by kernel_rfl) (fun _ _ _ h => h) (Or.inl ⟨by rfl, ?_⟩) (by assumption) ?_
              rotate_left
              · ((intro w hSw; (try dsimp only at hSw); go_simp); (try with_reducible rfl))
              try simp only [Act.put, List.setIfInBounds_toArray, List.set_cons_zero, List.set_cons_succ]
              refine wpAnyH_ready (rs := [7]) (by kernel_rfl) (by simp) ?_
              refine AllReadyH.cons (o := ⟨_, _, _, _, _, _⟩) rfl (fun K hK => ?_) AllReadyH.nil
              refine (if_pos (show Region.wanted _ _ = true by kernel_rfl)).mpr ?_
              refine end_call 23 [.tmp 32, .tmp 33, .tmp 35] #[22, 3, 3] rfl run_treeAt _ rfl HC.out ?_
              rintro e w5 ⟨⟨x, h5, h6⟩, b5⟩
              subst h5
              obtain ⟨xl, xp, xc, xk, xb⟩ := x
              obtain ⟨⟨y1, k1, r1, hy1⟩, ⟨y2, k2, r2, hy2⟩, ⟨y3, k3, r3, hy3⟩, ⟨y4, k4, r4, hy4⟩, _⟩ := TreeD.slices h6
              simp only at hy1 hy2 hy3 hy4
              subst hy1 hy2 hy3 hy4
              have bb5 : Below wr.heap.size wr w5 := (Below.drew (Below.refl _ wr)).trans b5
              refine .inl ⟨_, rfl, ?_⟩
              refine hK.out _ _ (KEEP.out _ bb5) (fun hH2 => ?_)
              clear hK K hH
              have hH := hH2
              clear hH2
              try simp only [Act.put, List.setIfInBounds_toArray, List.set_cons_zero, List.set_cons_succ]
              refine wpAnyH_take (i := 8) (oi := ⟨_, _, _, _, _, _⟩) (v := ?_) rfl (by kernel_rfl) (by kernel_rfl) (by kernel_rfl) (fun _ _ _ h => h) (Or.inl ⟨by rfl, ?_⟩) (by assumption) ?_
              rotate_left
              · ((intro w hSw; (try dsimp only at hSw); go_simp); (try with_reducible rfl))
              try simp only [Act.put, List.setIfInBounds_toArray, List.set_cons_zero, List.set_cons_succ]
              refine wpAnyH_ready (rs := [9]) (by kernel_rfl) (by simp) ?_
              refine AllReadyH.cons (o := ⟨_, _, _, _, _, _⟩) rfl (fun K hK => ?_) AllReadyH.nil
              obtain ⟨⟨z0, z1, z2, z3, z4⟩, zf, zst⟩ := slot_set (x := ⟨xl, .slice y1 k1 r1, .slice y2 k2 r2, .slice y3 k3 r3, .slice y4 k4 r4⟩) (owns_chg II.out.2.1 (Chg.of_below (F := fun _ => False) bb5) (fun _ _ e => e)) hlt hxl
              go_simp
              have gT := setT_chg w5 M j ⟨xl, .slice y1 k1 r1, .slice y2 k2 r2, .slice y3 k3 r3, .slice y4 k4 r4⟩
              have zT := setT_size w5 M j ⟨xl, .slice y1 k1 r1, .slice y2 k2 r2, .slice y3 k3 r3, .slice y4 k4 r4⟩
              have hz5 : wr.heap.size ≤ w5.heap.size := bb5.size
              have T6 := (II.out.1.snoc bb5 (by simpa using h6)).chg gT (fun g hg => by omega) (by omega)
              have C6 : Chg (fun g => g = M) W4 (setT w5 M j ⟨xl, .slice y1 k1 r1, .slice y2 k2 r2, .slice y3 k3 r3, .slice y4 k4 r4⟩) := (II.out.2.2.1.trans (Chg.of_below (F := fun g => g = M) bb5) (fun _ _ e => e)).trans gT (fun _ _ e => e)
              have X6 := ((II.out.2.2.2.2.1.chg (Chg.of_below (F := fun _ => False) bb5) id).chg gT (by omega)).cell.2.2.2.1
              have z6 : W4.heap.size ≤ (setT w5 M j ⟨xl, .slice y1 k1 r1, .slice y2 k2 r2, .slice y3 k3 r3, .slice y4 k4 r4⟩).heap.size := by have := II.out.2.2.2.1; omega
              have FIN : Hid _ := And.intro HK.out (And.intro T6 (And.intro zst (And.intro C6 z6)))
              unfold setT at X6
              refine hK.out _ _ X6 (fun hH2 => ?_)
              clear hK K hH hH2 T6 zst C6 z6 gT zT X6 z0 z1 z2 z3 z4 zf KEEP HC h6 b5 bb5
              try simp only [Act.put, List.setIfInBounds_toArray, List.set_cons_zero, List.set_cons_succ]
              refine wpAnyH_done (by kernel_rfl) ?_ _
              go_wp2
              go_roundw
              case rel => exact ⟨j + 1, xs ++ [TV.mk xl (.slice y1 k1 r1) (.slice y2 k2 r2) (.slice y3 k3 r3) (.slice y4 k4 r4)], ts ++ [t], by omega, by go_num, by simp [hxl], FIN.out⟩
              case measure => simp [intOf]; omega
          · have hjl : j = f.kids.length := by omega
            obtain ⟨i1, i2, i3, i4, i5⟩ := hI.out
            rw [hjl, Nat.sub_self, List.replicate_zero, List.append_nil] at i3
            rw [hjl, List.take_length] at i1
            have x5 := G.out.2.1.chg i4 (by omega)
            have y5 := G.out.2.2.1.chg i4 (by omega)
            obtain ⟨f1, f2, f3, f4, f5, f6, f7, f8, f9, f10⟩ := HF.out
            have c5 : OwnE wr N 3 1 (.slice a2 m2 q2) f.cuts.length (flatI f.cuts) := .inl (owns_chg f4 i4 (fun g hg e => ownB_ne f4 f8 (by decide) hg e))
            have b5 := f5.chg i4 (fun g hg e => by
              obtain ⟨cur, hc⟩ := wrB_ty f5 hg
              rw [e, f8] at hc
              simp at hc)
            have hx5 : xs.length = f.kids.length := by omega
            have k5 : OwnE wr N 32 5 (.slice (some ⟨M, 0, Option.none⟩) f.kids.length f.kids.length) f.kids.length (flatT xs) := .inl i3
            rw [← hx5] at k5
            have s6 := set5_chg wr w.heap.size (.bool false) (.slice Option.none 0 0) (.slice a2 m2 q2) (.slice (some ⟨M, 0, Option.none⟩) f.kids.length f.kids.length) (.slice a4 m4 q4)
            have x6 := y5.set (.bool false) (.slice Option.none 0 0) (.slice a2 m2 q2) (.slice (some ⟨M, 0, Option.none⟩) f.kids.length f.kids.length) (.slice a4 m4 q4)
            have z6 : wr.heap.size ≤ (set5 wr w.heap.size (.bool false) (.slice Option.none 0 0) (.slice a2 m2 q2) (.slice (some ⟨M, 0, Option.none⟩) f.kids.length f.kids.length) (.slice a4 m4 q4)).heap.size := by simp [set5]
            have T6 := TreesD.fork (low := w.heap.size) (i2.chg s6 (fun g hg => by omega) z6) (c5.chg s6 (fun g hg e => by have := (c5.lt g hg).1; omega)) (b5.chg s6 (fun g hg e => by have := (b5.lt g hg).1; omega)) (k5.chg s6 (fun g hg e => by have := (k5.lt g hg).1; omega)) (by omega) (by omega) (fun g hg => by have := f9 g hg; omega) (fun g hg => by have := f10 g hg; omega) (by omega)
            rw [hx5] at T6
            have B5 : Below w.heap.size w wr := G.out.2.2.2.2.2.trans (i4.below (fun g _ hg => by omega) (by have := G.out.2.2.2.2.2.size; omega))
            have B6 := B5.trans (s6.below (fun g _ hg => by omega) B5.size)
            have HL : Hid _ := readR_fork (d := d') ha hg
            rw [i1] at HL
            obtain ⟨u0, u1, u2, u3, u4⟩ := x5.cell
            obtain ⟨o0, o1, o2, o3, o4⟩ := y5.cell
            have l5 := y5.live
            unfold set5 at x6 T6 B6
            obtain ⟨v0, v1, v2, v3, v4⟩ := x6.cell
            have HT : Hid _ := And.intro T6 B6
            clear T6 B6 x6 s6 z6 B5 k5 b5 c5 f1 f2 f3 f4 f5 f6 f7 f8 f9 f10 HF i1 i2 i3 i4 i5 hI K4 x5 y5
            go_wp2
            simp [bodyPost, results, Tryd.results23, go_sem, v0, v1, v2, v3, v4]
            rw [HL.out]
            exact ⟨⟨⟨false, .slice Option.none 0 0, .slice a2 m2 q2, .slice (some ⟨M, 0, Option.none⟩) f.kids.length f.kids.length, .slice a4 m4 q4⟩, rfl, HT.out.1⟩, HT.out.2⟩
  · unfold NodeRd at hn
    rw [if_neg hin] at hn
    subst hn
    have hg : readR (pgB l) d a = .none := by
      rcases Nat.eq_zero_or_pos d with h0 | h0
      · subst h0; rfl
      · exact readR_out (by rw [pgB_length]; omega)
    go_wp2
    exact ⟨rfl, TreeRd.none hg, B2⟩

/-- the program's treeAt, at any depth -/
theorem treeAt_any (ea : Addr) (v : Value) (l : List ByteArray) (hz : ∀ s ∈ l, s.size ≤ maxLen) : ∀ (d : Nat), d ≤ 8 → ∀ (a dp : Int) (w : World), dp + d = 8 → Row w v l.length (flatS l) → ErrIs ea w →
    Calls Tryd.prog 23 #[v, .int .i64 a, .int .i64 dp] w fun e w' => TreeRd ea w.heap.size d (readR (pgB l) d a) e w' ∧ Below w.heap.size w w'
  | 0, _, a, dp, w, hd, hr, he => treeAt_step ea v l hz 0 a dp w hd (by omega) hr he (fun d' h => by omega)
  | d + 1, h8, a, dp, w, hd, hr, he => treeAt_step ea v l hz (d + 1) a dp w hd h8 hr he (fun d' h a' w' hr' he' => by
      have e : d = d' := by omega
      subst e
      exact treeAt_any ea v l hz d (by omega) a' (dp + 1) w' (by omega) hr' he')

end Go.Proofs.YtckphbmlmjlipaaDoor
