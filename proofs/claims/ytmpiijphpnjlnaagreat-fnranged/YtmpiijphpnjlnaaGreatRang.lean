/-
  The contract of the program's TreeRange.
-/
import Derived.Test.YtmpiijphpnjlnaaGreatColl
namespace Go.Proofs.YtmpiijphpnjlnaaGreat
open Go.RowKit Go.Shelf

attribute [local go_sem] Oper.semAt_some

/-- the caller's blocks: the list's box and row, and the two limits' boxes -/
def XR (B a b : Nat) (W : World) (g : Nat) : Prop := XB B W g ∨ g = a ∨ g = b
def IR (B a b : Nat) (x0 x1 : Int) (s : PL) (W : World) : Prop := IB B (B + 1) (fun s => rangeL s x0 x1) s W ∧ Boxed W a 3 (.int .i64 x0) ∧ Boxed W b 3 (.int .i64 x1)
theorem IR.cl {B a b : Nat} (x0 x1 : Int) : Cl (XR B a b) (IR B a b x0 x1) := by
  refine ⟨fun s W g h hx => ?_, fun s W W' h hc => ?_⟩
  · rcases hx with hx | rfl | rfl
    · exact (IB.cl B (B + 1) _).lt s W g h.1 hx
    · exact h.2.1.lt
    · exact h.2.2.lt
  · obtain ⟨k1, k2⟩ := (IB.cl B (B + 1) _).abide s W W' h.1 (hc.mono fun g _ hn hx => hn (.inl hx))
    exact ⟨⟨k1, (hc.block a h.2.1.lt (fun hn => hn (.inr (.inl rfl)))).trans h.2.1, (hc.block b h.2.2.lt (fun hn => hn (.inr (.inr rfl)))).trans h.2.2⟩, fun g => by
      show (XB B W' g ∨ _) ↔ (XB B W g ∨ _)
      rw [k2 g]⟩
theorem IR.next {B a b : Nat} {x0 x1 : Int} {s s' : PL} {V V' : World} (ha : a < B) (hb : b < B) (h : IR B a b x0 x1 s V) (hi : IB B (B + 1) (fun s => rangeL s x0 x1) s' V') (hk : Kx (XB B) V V') : IR B a b x0 x1 s' V' ∧ Kx (XR B a b) V V' := by
  obtain ⟨⟨v, hv, ho⟩, h2, h3⟩ := h
  have hn : ∀ g, g < B → ¬ XB B V g := fun g hg hx => by
    rcases (XB.of hv g).1 hx with h | h
    · omega
    · have := (ho.lt g h).1; omega
  refine ⟨⟨hi, (hk.chg.block a h2.lt (hn a ha)).trans h2, (hk.chg.block b h3.lt (hn b hb)).trans h3⟩, hk.chg.mono fun g _ hx => .inl hx, fun g hg => ?_⟩
  rcases hg with hg | hg
  · exact (hk.sub g hg).elim (fun h => .inl (.inl h)) .inr
  · exact .inl (.inr hg)

set_option maxRecDepth 100000 in
set_option maxHeartbeats 4000000 in
theorem implTreeRange_any (n : Nat) (x : TV) (T : Tr) (x0 x1 : Int) (w : World) (ht : TreeAt n w x T) :
    Calls Tryz.prog 16 #[x.val, .int .i64 x0, .int .i64 x1] w fun e w' => ∃ v', e = .returned v' ∧ w'.ownsRow w.heap.size 52 2 v' (rangeT T x0 x1).length (flatP (rangeT T x0 x1)) ∧ Below w.heap.size w w' := by
  have TT : Hid (TreeAt n w x T) := ht
  clear ht
  obtain ⟨i0, hi0, hz0, hz1, hz2⟩ := info_parts Tryz.info52
  obtain ⟨lf, p, c, k, b⟩ := x
  have B0 : Hid (Below w.heap.size w (((w.alloc (.cells #[.bool lf, p, c, k, b] 29)).alloc (.cells #[.int .i64 x0] 3)).alloc (.cells #[.int .i64 x1] 3))) := (((Below.refl _ _).alloc (Nat.le_refl _) _).alloc (by simp) _).alloc (by simp; omega) _
  have S0 : Hid (OneAt (((w.alloc (.cells #[.bool lf, p, c, k, b] 29)).alloc (.cells #[.int .i64 x0] 3)).alloc (.cells #[.int .i64 x1] 3)) w.heap.size #[.bool lf, p, c, k, b]) := ((OneAt.start w _).step ((Below.refl _ _).alloc (Nat.le_refl _) _)).step ((Below.refl _ _).alloc (Nat.le_refl _) _)
  have L0 : Hid (Boxed (((w.alloc (.cells #[.bool lf, p, c, k, b] 29)).alloc (.cells #[.int .i64 x0] 3)).alloc (.cells #[.int .i64 x1] 3)) (w.heap.size + 1) 3 (.int .i64 x0)) := by
    have := (Boxed.new (w.alloc (.cells #[.bool lf, p, c, k, b] 29)) 3 (.int .i64 x0)).alloc (.cells #[.int .i64 x1] 3)
    rw [World.size_alloc] at this
    exact this
  have H0 : Hid (Boxed (((w.alloc (.cells #[.bool lf, p, c, k, b] 29)).alloc (.cells #[.int .i64 x0] 3)).alloc (.cells #[.int .i64 x1] 3)) (w.heap.size + 2) 3 (.int .i64 x1)) := by
    have := Boxed.new ((w.alloc (.cells #[.bool lf, p, c, k, b] 29)).alloc (.cells #[.int .i64 x0] 3)) 3 (.int .i64 x1)
    rw [World.size_alloc, World.size_alloc] at this
    exact this
  have HC := implTreeOk_any n ⟨lf, p, c, k, b⟩ T _ (TT.out.below B0.out)
  have HC' : Hid _ := HC
  clear HC
  have P1 : Hid (okT T = true → rangeT T x0 x1 = rangeL (toldF 7 T []) x0 x1) := fun h => by rw [rangeT, mapT, if_pos h, told_map h]
  have P2 : Hid (okT T = false → rangeT T x0 x1 = []) := fun h => by rw [rangeT, mapT, if_neg (by rw [h]; simp)]; rfl
  show Calls Tryz.prog 16 #[.agg #[.bool lf, p, c, k, b], .int .i64 x0, .int .i64 x1] w _
  obtain ⟨k0, k1, k2, k3, k4⟩ := box_cells5 S0.out
  cases hok : okT T
  · rw [P2.out hok]
    rw [hok] at HC'
    clear P1 P2
    go_enter Tryz.func16, Tryz.ntmps16
    go_wp2_with fail
    refine Calls.mono HC'.out ?_
    rintro e w1 ⟨rfl, hb1⟩
    have B1 : Hid (Below w.heap.size w w1) := Below.and B0.out hb1
    clear hb1 B0 k0 k1 k2 k3 k4
    go_wp2
    go_ret
    exact ⟨_, rfl, World.ownsRow_nil _ _ _ _, B1.out⟩
  · have hml := mapT_length T
    have hasc : Hid (Asc (toldF 7 T [])) := (toldF_is (okT_depth hok) (fun x hx => by simp at hx)).1.1
    rw [P1.out hok]
    rw [mapT, if_pos hok, ← told_map hok] at hml
    have HD : Hid (∀ w1, Below w.heap.size w w1 → Calls Tryz.prog 31 #[.agg #[.bool lf, p, c, k, b], .slice none 0 0] w1 fun e w' => ∃ (gf : Nat) (lb : Array Value) (Dta : Nat → Prop), e = .returned (.func (.func gf) #[] lb) ∧ (∀ args u, (callFunc gf args).run Tryz.prog u = .ok (.enter gf args) u) ∧ Gives Tryz.prog gf lb encP Dta (toldF 7 T []) w' ∧
        (∀ g, Dta g → g < w'.heap.size) ∧ (∀ g, Dta g → g < w.heap.size ∨ (Value.slice none 0 0).ownBlock = some g ∨ w1.heap.size ≤ g) ∧ Below w1.heap.size w1 w') :=
      fun w1 hb => told_any 7 n ⟨lf, p, c, k, b⟩ T 0 1000 w w1 (.slice none 0 0) [] TT.out hb (World.ownsRow_nil _ _ _ _) (okT_depth hok) (by simp)
    rw [hok] at HC'
    clear P1 P2 TT
    generalize toldF 7 T [] = M at *
    refine (callsIn_wide (n := 5)).1 ?_
    refine callsIn_of_wp_marks Tryz.func16 rfl trivial ?_ rfl
    simp only [Tryz.ntmps16, List.size_toArray, List.length_cons, List.length_nil, Nat.reduceAdd, Nat.reduceSub, Array.replicate_succ, Array.replicate_zero, List.push_toArray, List.append_toArray, List.nil_append, List.cons_append]
    refine wpIn_wide.2 ?_
    go_wp2_with fail
    refine Calls.mono HC'.out ?_
    rintro e w1 ⟨rfl, hb1⟩
    have B1 : Hid (Below w.heap.size w w1) := Below.and B0.out hb1
    have S1 : Hid (OneAt w1 w.heap.size _) := S0.out.step hb1
    have L1 : Hid (Boxed w1 (w.heap.size + 1) 3 (.int .i64 x0)) := (hb1.block _ L0.out.lt).trans L0.out
    have H1 : Hid (Boxed w1 (w.heap.size + 2) 3 (.int .i64 x1)) := (hb1.block _ H0.out.lt).trans H0.out
    clear hb1 B0 k0 k1 k2 k3 k4 S0 L0 H0 HC'
    obtain ⟨k0, k1, k2, k3, k4⟩ := box_cells5 S1.out
    have BL : Hid (Below w.heap.size w (w1.alloc (.cells #[.slice none 0 0] 24))) := B1.out.alloc B1.out.size _
    have SL : Hid (OneAt (w1.alloc (.cells #[.slice none 0 0] 24)) w.heap.size _) := S1.out.step ((Below.refl _ _).alloc (Nat.le_refl _) _)
    obtain ⟨g0, g1, g2, g3, g4⟩ := box_cells5 SL.out
    go_wp2_with fail
    refine Calls.mono (HD.out _ BL.out) ?_
    rintro e w2 ⟨gf, lb, Dta, rfl, eg, hg, dl, dc, hb2⟩
    have GV : Hid _ := hg
    have EG : Hid _ := eg
    have DL : Hid _ := dl
    have DC : Hid (∀ g, Dta g → g < w.heap.size ∨ w1.heap.size + 1 ≤ g) := fun g hg => by
      rcases dc g hg with h | h | h
      · exact .inl h
      · cases h
      · rw [World.size_alloc] at h
        exact .inr h
    have B2 : Hid (Below (w1.heap.size + 1) (w1.alloc (.cells #[.slice none 0 0] 24)) w2) := by
      have := hb2
      rw [World.size_alloc] at this
      exact this
    have BX : Hid (Boxed w2 w1.heap.size 24 (.slice none 0 0)) := (B2.out.block _ (Nat.lt_succ_self _)).trans (Boxed.new w1 24 _)
    have L2 : Hid (Boxed w2 (w.heap.size + 1) 3 (.int .i64 x0)) := (B2.out.block _ (by have := L1.out.lt; omega)).trans (L1.out.alloc _)
    have H2 : Hid (Boxed w2 (w.heap.size + 2) 3 (.int .i64 x1)) := (B2.out.block _ (by have := H1.out.lt; omega)).trans (H1.out.alloc _)
    have W2 : Hid (Below w.heap.size w w2) := BL.out.trans (B2.out.mono (by have := B1.out.size; omega))
    clear eg hg dl dc hb2 k0 k1 k2 k3 k4 g0 g1 g2 g3 g4
    go_wp2_with fail
    have LT : Hid (w.heap.size + 1 < w1.heap.size ∧ w.heap.size + 2 < w1.heap.size) := ⟨L1.out.lt, H1.out.lt⟩
    have I0 : Hid (IR w1.heap.size (w.heap.size + 1) (w.heap.size + 2) x0 x1 [] w2) := ⟨⟨.slice none 0 0, BX.out, World.ownsRow_nil _ _ _ _⟩, L2.out, H2.out⟩
    have XL : Hid (∀ g, g < w.heap.size → ¬ XR w1.heap.size (w.heap.size + 1) (w.heap.size + 2) w2 g) := fun g hg hx => by
      have := LT.out.1
      rcases hx with hx | hx | hx
      · rcases (XB.of BX.out g).1 hx with h | h
        · omega
        · cases h
      · omega
      · omega
    refine (wpIn_wide (n := 5)).1 (wpIn_range_cl (gf := gf) (lb := lb) rfl EG.out GV.out (Chg.refl _ _) DL.out (fun _ => rfl) (XR w1.heap.size (w.heap.size + 1) (w.heap.size + 2)) (IR w1.heap.size (w.heap.size + 1) (w.heap.size + 2) x0 x1)
      (fun cd s V => (cd = .exit 0 ∧ ∃ s' q, s = s' ++ [q] ∧ x1 ≤ q.1) ∧ IR w1.heap.size (w.heap.size + 1) (w.heap.size + 2) x0 x1 s V) (IR.cl _ _) (fun cd => ?clx) ?hd I0.out
      (fun q a' V => ∃ Bp, V.heap[Bp]? = some (.cells #[.int .i64 q.1, .int .i64 q.2] 52 (0, 0)) ∧ a' = { tmps := #[.agg #[.bool lf, p, c, k, b], .int .i64 x0, .int .i64 x1, .pointer (some ⟨w.heap.size, 0, none⟩), .pointer (some ⟨w.heap.size + 1, 0, none⟩), .pointer (some ⟨w.heap.size + 1 + 1, 0, none⟩), .slice none 0 0, .pointer (some ⟨w1.heap.size, 0, none⟩), .pointer (some ⟨Bp, 0, none⟩), .agg #[.bool lf, p, c, k, b], .bool true, .bool false, .agg #[.bool lf, p, c, k, b], .func (.func gf) #[] lb, .agg #[.int .i64 q.1, .int .i64 q.2], undef, undef, undef, undef, undef, undef, undef, undef, undef, undef, undef, undef, undef], defers := [] }) ?hax ?assign ?body ?done ?stop)
    case clx =>
      exact ⟨fun s W g hj hx => (IR.cl x0 x1).lt s W g hj.2 hx, fun s W W' hj hc => by
        have := (IR.cl x0 x1).abide s W W' hj.2 hc
        exact ⟨⟨hj.1, this.1⟩, this.2⟩⟩
    case hd =>
      intro g hg hx
      have h1 := LT.out
      rcases DC.out g hg with h | h
      · exact XL.out g h hx
      · rcases hx with hx | hx | hx
        · rcases (XB.of BX.out g).1 hx with h' | h'
          · omega
          · cases h'
        · omega
        · omega
    case hax =>
      rintro q a' V l' o o' ⟨Bp, h1, h2⟩ h3 h4
      refine ⟨Bp, ?_, h2⟩
      rw [World.putObj_heap_other (fun e => ?_)]
      · exact h1
      · subst e
        rw [h1] at h3
        cases h3
        cases h4
    case assign =>
      intro lp pre q V K hi hpre hK
      have AL : Hid _ := (IR.cl x0 x1).alloc hi (.cells #[.int .i64 q.1, .int .i64 q.2] 52)
      have HN : Hid _ := heap_alloc_new V (.cells #[.int .i64 q.1, .int .i64 q.2] 52)
      have HKK : Hid _ := hK
      clear hK hi hpre
      simp only [encP]
      gi_wp2
      exact HKK.out _ _ AL.out.1 AL.out.2 ⟨V.heap.size, HN.out, rfl⟩
    case body =>
      rintro lp pre q a' V hi ⟨Bp, hBp, rfl⟩ hpre
      obtain ⟨⟨v, hv, ho⟩, hl, hh⟩ := hi
      have e0 : V.cell? ⟨Bp, 0, none⟩ = some (.int .i64 q.1) := by rw [cell_of_row V Bp 0 _ 52 (0, 0) hBp]; rfl
      have e1 : V.cell? ⟨Bp, 1, none⟩ = some (.int .i64 q.2) := by rw [cell_of_row V Bp 1 _ 52 (0, 0) hBp]; rfl
      have cl := hl.cell
      have ch := hh.cell
      have c0 := hv.cell
      have HI : Hid (IR w1.heap.size (w.heap.size + 1) (w.heap.size + 2) x0 x1 pre V) := ⟨⟨v, hv, ho⟩, hl, hh⟩
      have HV : Hid (Boxed V w1.heap.size 24 v) := hv
      have HO : Hid (V.ownsRow (w1.heap.size + 1) 52 2 v (rangeL pre x0 x1).length (flatP (rangeL pre x0 x1))) := ho
      have hpl : (rangeL pre x0 x1).length ≤ 4194304 := by
        have := hpre.length_le
        have := rangeL_length pre x0 x1
        simp at *
        omega
      have RS : Hid (rangeL (pre ++ [q]) x0 x1 = if x0 ≤ q.1 ∧ q.1 < x1 then rangeL pre x0 x1 ++ [q] else rangeL pre x0 x1) := rangeL_snoc pre q x0 x1
      have hbs : w1.heap.size + 1 ≤ V.heap.size := hv.lt
      clear hv ho hBp hpre hl hh
      try dsimp only
      by_cases h1 : x1 ≤ q.1
      · have RE : Hid (rangeL (pre ++ [q]) x0 x1 = rangeL pre x0 x1) := RS.out.trans (if_neg (by omega))
        have FIN : Hid (IR w1.heap.size (w.heap.size + 1) (w.heap.size + 2) x0 x1 (pre ++ [q]) V) := ⟨⟨v, HV.out, by show V.ownsRow _ 52 2 v (rangeL (pre ++ [q]) x0 x1).length (flatP (rangeL (pre ++ [q]) x0 x1)); rw [RE.out]; exact HO.out⟩, HI.out.2⟩
        have EX : Hid (x1 ≤ q.1) := h1
        gi_wp2
        exact ⟨⟨⟨rfl, pre, q, rfl, EX.out⟩, FIN.out⟩, Kx.refl _ _⟩
      · by_cases h2 : x0 ≤ q.1
        · have RE : Hid (rangeL (pre ++ [q]) x0 x1 = rangeL pre x0 x1 ++ [q]) := RS.out.trans (if_pos (by omega))
          have HR : Hid _ := room_of (n := (rangeL pre x0 x1).length) (bytes := 16) (by omega) (by decide)
          have H1' : Hid _ := two_one q.1 q.2
          gi_wp2_with (gi_at_builtin; refine appIn_oneL V rfl _ _ 24 rfl (w1.heap.size + 1) 52 i0 _ 2 16 Tryz.underlying24 hi0 hz0 hz1 hz2 rfl (by decide) v _ _ rfl HO.out [.int .i64 q.1, .int .i64 q.2] rfl rfl H1'.out HR.out.1 HR.out.2 hbs ?_)
          intro v5 w5 o5 c5 l5
          obtain ⟨g5, q5, rfl⟩ := ownsRow_succ o5
          obtain ⟨b5, i5, k5⟩ := IB.put (f := fun s => rangeL s x0 x1) (s := pre) (s' := pre ++ [q]) (p := q) HV.out HO.out RE.out o5 c5 l5
          have FIN : Hid _ := HI.out.next (by have := LT.out.1; omega) (by have := LT.out.2; omega) i5 k5
          have d1 := b5.cell
          have f1 := b5.frozen
          clear o5 c5 l5 b5 i5 k5 e0 e1 c0 cl ch
          gi_wp2
          exact FIN.out
        · have RE : Hid (rangeL (pre ++ [q]) x0 x1 = rangeL pre x0 x1) := RS.out.trans (if_neg (by omega))
          have FIN : Hid (IR w1.heap.size (w.heap.size + 1) (w.heap.size + 2) x0 x1 (pre ++ [q]) V) := ⟨⟨v, HV.out, by show V.ownsRow _ 52 2 v (rangeL (pre ++ [q]) x0 x1).length (flatP (rangeL (pre ++ [q]) x0 x1)); rw [RE.out]; exact HO.out⟩, HI.out.2⟩
          gi_wp2
          exact ⟨FIN.out, Kx.refl _ _⟩
    case done =>
      rintro D W3 hD2 ⟨⟨v, hv, ho⟩, _⟩ hkx hK hnx
      have c0 := hv.cell
      have HV : Hid (Boxed W3 w1.heap.size 24 v) := hv
      have HO : Hid (W3.ownsRow (w1.heap.size + 1) 52 2 v (rangeL M x0 x1).length (flatP (rangeL M x0 x1))) := ho
      have HK : Hid _ := hkx
      have HDF : Hid _ := hK
      have NX : Hid _ := hnx
      clear hv ho hkx hK hnx
      try dsimp only
      go_wp2
      show LeavesInM Fence.wide 5 Tryz.prog Tryz.f16 _ _ ([D].map mkD) .returning W3
      refine leaves_marks [D] W3 (fun d hd => by obtain rfl := List.mem_singleton.1 hd; exact HDF.out) (by simp) (fun W' hc => ?_)
      have hO' := owns_chg HO.out hc (fun g hg hm => NX.out (.inl (by obtain rfl := List.mem_singleton.1 hm; exact (XB.of HV.out _).2 (.inr hg))))
      have hB2 : Below w.heap.size w W3 := below_chg W2.out HK.out.chg W2.out.size (fun g hg hx => XL.out g hg hx)
      have hB3 : Below w.heap.size w W' := below_chg hB2 hc hB2.size (fun g hg hm => by
        obtain rfl := List.mem_singleton.1 hm
        have := W2.out.size
        omega)
      exact ⟨v, by simp [results, Tryz.results16, go_sem], v, rfl, owns_mono hO' (by have := LT.out.1; omega), hB3⟩
    case stop =>
      rintro D cd pre W3 hD2 hpre ⟨⟨rfl, s', q, rfl, hq⟩, ⟨v, hv, ho⟩, _⟩ hkx hK hnx
      have c0 := hv.cell
      have HV : Hid (Boxed W3 w1.heap.size 24 v) := hv
      have ER : rangeL (s' ++ [q]) x0 x1 = rangeL M x0 x1 := by
        obtain ⟨r, hr⟩ := hpre
        have hM : s' ++ q :: r = M := by rw [← hr]; simp
        have h1 : rangeL M x0 x1 = rangeL s' x0 x1 := by rw [← hM]; exact rangeL_stop (by rw [hM]; exact hasc.out) hq
        rw [h1, rangeL_snoc, if_neg (by omega)]
      have HO : Hid (W3.ownsRow (w1.heap.size + 1) 52 2 v (rangeL M x0 x1).length (flatP (rangeL M x0 x1))) := by
        have := ho
        simp only [ER] at this
        exact this
      have HK : Hid _ := hkx
      have HDF : Hid _ := hK
      have NX : Hid _ := hnx
      clear hv ho hkx hK hnx hpre hq ER
      refine wpIn_wide.2 ?_
      try dsimp only
      go_wp2
      show LeavesInM Fence.wide 5 Tryz.prog Tryz.f16 _ _ ([D].map mkD) .returning W3
      refine leaves_marks [D] W3 (fun d hd => by obtain rfl := List.mem_singleton.1 hd; exact HDF.out) (by simp) (fun W' hc => ?_)
      have hO' := owns_chg HO.out hc (fun g hg hm => NX.out (.inl (by obtain rfl := List.mem_singleton.1 hm; exact (XB.of HV.out _).2 (.inr hg))))
      have hB2 : Below w.heap.size w W3 := below_chg W2.out HK.out.chg W2.out.size (fun g hg hx => XL.out g hg hx)
      have hB3 : Below w.heap.size w W' := below_chg hB2 hc hB2.size (fun g hg hm => by
        obtain rfl := List.mem_singleton.1 hm
        have := W2.out.size
        omega)
      exact ⟨v, by simp [results, Tryz.results16, go_sem], v, rfl, owns_mono hO' (by have := LT.out.1; omega), hB3⟩

end Go.Proofs.YtmpiijphpnjlnaaGreat
