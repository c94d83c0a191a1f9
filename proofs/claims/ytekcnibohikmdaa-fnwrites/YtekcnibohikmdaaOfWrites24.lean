/-
  The model's l6Pages: whatever it comes upon, it answers, and writes into the row of what was seen alone.
  The model's l6Taken: a row of truths of its own, one a page.
  The model's drawing of keys, messages and maps: every draw returns, in memory of its own.
  The laws' own big and at; a row of bytes as a string.
-/
import Derived.Test.YtekcnibohikmdaaOfWrites16
import Derived.Test.YtekcnibohikmdaaOfWrites19
import Derived.Test.YtekcnibohikmdaaOfWrites23
import Derived.Deep.DeepCutAuto
import Derived.Test.YtekcnibohikmdaaOfWrites2
import Derived.Test.YtekcnibohikmdaaOfWrites13
import Derived.Laws.BytesArg
namespace Go.Proofs.Ytekcnibohikmdaa
set_option maxRecDepth 100000
set_option maxHeartbeats 8000000
section
open Go.RowKit

def GotNode (w : World) (e : Ending) (w' : World) : Prop := ∃ (lf : Bool) (a1 a2 a3 a4 : Option Addr) (n1 n2 n3 n4 q1 q2 q3 q4 : Nat) (vk : Value) (ks : List Int) (ok : Bool), e = .returned (.tuple #[.agg #[.bool lf, .slice a1 n1 q1, .slice a2 n2 q2, .slice a3 n3 q3, .slice a4 n4 q4], vk, .bool ok]) ∧ ks.length ≤ 4 ∧ OwnE w' (w.heap.size + 1) 3 1 vk ks.length (flatI ks) ∧ Below w.heap.size w w'
theorem gotNode_any (v : Value) (bs : List Int) (w : World) (hr : Row w v bs.length (flatB bs)) (hbs : inByte bs) (hn : bs.length ≤ 1099511627776) :
  Calls Try.prog 47 #[v] w (GotNode w) := by
 refine (specGetNode_own v bs w hr hbs hn).mono ?_
 rintro e w' ⟨h, hb⟩
 cases hg : getNodeF bs with
 | none =>
  rw [hg] at h
  obtain ⟨g, rfl⟩ := h
  exact ⟨false, none, none, none, none, 0, 0, 0, 0, 0, 0, 0, 0, _, [], false, rfl, by decide, OwnE.zero _ _ _ _ _, hb⟩
 | some n =>
  have hok := (getNodeF_put hbs hg).2.2
  rw [hg] at h
  obtain ⟨x, vk, rfl, TX, NO⟩ := h
  obtain ⟨a1, a2, a3, a4, q1, q2, q3, q4, hx⟩ := TX.1.shape
  subst hx
  refine ⟨_, a1, a2, a3, a4, _, _, _, _, q1, q2, q3, q4, vk, kidsV n, true, rfl, ?_, NO.2.2.2.2, hb⟩
  cases n with
  | inl ps => exact Nat.zero_le _
  | inr f =>
   simp [okV] at hok
   show f.kids.length ≤ 4
   omega

structure PgI (w0 w : World) (vp vs : Value) (G n : Nat) (u : World) : Prop where
 b : Below w0.heap.size w0 u
 x : u.heap[w.heap.size]? = some (.cells #[vp, vs] 27)
 s : Seen u G n
 c : Chg (fun g => g = G) w u
 g : G < w.heap.size
 l : w0.heap.size ≤ G
theorem PgI.step {w0 w : World} {vp vs : Value} {G n : Nat} {u u' : World} (h : PgI w0 w vp vs G n u) (hc : Chg (fun g => g = G) u u') (hs : Seen u' G n) : PgI w0 w vp vs G n u' :=
 ⟨h.b.trans (hc.below (fun g _ e => by have := h.l; omega) h.b.size), row_chg h.x hc (by have := h.g; omega), hs, h.c.trans hc (fun _ _ e => e), h.g, h.l⟩
theorem PgI.low {w0 w : World} {vp vs : Value} {G n : Nat} {u u' : World} (h : PgI w0 w vp vs G n u) (hb : Below u.heap.size u u') : PgI w0 w vp vs G n u' := h.step (Chg.of_below hb) (h.s.below hb)
theorem PgI.seen {w0 w : World} {vp vs : Value} {G n : Nat} {u : World} (h : PgI w0 w vp vs G n u) (i : Nat) : PgI w0 w vp vs G n (u.setCell ⟨G, i, none⟩ (.bool true)) :=
 h.step ((Chg.refl (fun g => g = G) _).setAt G i rfl _) (h.s.set i true)
theorem PgI.cells {w0 w : World} {vp vs : Value} {G n : Nat} {u : World} (h : PgI w0 w vp vs G n u) : u.cell? ⟨w.heap.size, 0, none⟩ = some vp ∧ u.cell? ⟨w.heap.size, 1, none⟩ = some vs := ⟨cell_of_cells h.x, cell_of_cells h.x⟩
theorem ownE_at {w : World} {base n : Nat} {v : Value} {ks : List Int} (h : OwnE w base 3 1 v n (flatI ks)) (hn : n = ks.length) {j : Nat} (hj : j < n) : ∃ g q, v = .slice (some ⟨g, 0, none⟩) n q ∧ wrB v g ∧ w.cell? ⟨g, j, none⟩ = some (.int .i64 (iAt ks j)) := by
 rcases h with h | ⟨h, _⟩
 ·have h0 := h
  obtain ⟨_, ⟨e, e2⟩ | ⟨g, cap', cur, e, _⟩⟩ := h0
  ·omega
  ·subst e
   exact ⟨g, _, rfl, ⟨n, _, rfl, by omega⟩, (h.cellAt j (by omega)).trans (flatI_at ks j (by omega))⟩
 ·omega
theorem run_l6Pages (args : Array Value) (w : World) : (callFunc 38 args).run Try.prog w = .ok (.enter 38 args) w := by go_simp
def PgPost (G n : Nat) (w : World) (e : Ending) (w' : World) : Prop := ∃ r : Bool, e = .returned (.bool r) ∧ Seen w' G n ∧ Chg (fun g => g = G) w w'

theorem l6Pages_step (w0 : World) (vp vs : Value) (P : PgL) (hP : PageOk P) (hr : Row w0 vp P.length (flatS P)) (G : Nat) (hG : w0.heap.size ≤ G) (d : Nat) (hd : d ≤ 8)
  (IH : ∀ d', d = d' + 1 → ∀ (a : Int) (w : World), Below w0.heap.size w0 w → Seen w G P.length → Calls Try.prog 38 #[.agg #[vp, vs], .int .i64 a, .int .i64 (d' : Int), .slice (some ⟨G, 0, none⟩) P.length P.length] w (PgPost G P.length w))
  (a : Int) (w : World) (hb : Below w0.heap.size w0 w) (hs : Seen w G P.length) :
  Calls Try.prog 38 #[.agg #[vp, vs], .int .i64 a, .int .i64 (d : Int), .slice (some ⟨G, 0, none⟩) P.length P.length] w (PgPost G P.length w) := by
 have hcv : ∀ (w : World) (s : ByteArray), (convert 9 22 (.string s)).run Try.prog w = .ok (.slice (some ⟨w.heap.size, 0, none⟩) s.size (grownCap w s.size 0 5)) (Go.Lib.bytesWorld w 5 s) := fun w s => Go.Lib.run_convert_string_bytes w _ _ 5 s rfl rfl rfl
 have R0 := hid hr
 obtain ⟨av, bv, ov, cv, hv, hv1, hv2, hv3, hv4, hv5⟩ := id hr
 unfold maxLen at hv2
 subst hv
 have HV : Hid _ := And.intro hv3 hv4
 have HP := hid hP
 have HI := hid IH
 have hGl := hs.lt
 have al := al1 w (.cells #[.slice av P.length cv, vs] 27)
 have S0 : Hid (PgI w0 w (.slice av P.length cv) vs G P.length (w.alloc (.cells #[.slice av P.length cv, vs] 27))) := ⟨hb.trans (al.mono hb.size), heap_alloc_new _ _, hs.below al, Chg.of_below al, hGl, hG⟩
 clear hv3 hv4 hv5 hr IH al hb hs hP
 have hl1 : (0 : Int) ≤ (P.length : Int) := by omega
 have hl2 : (P.length : Int) ≤ 200 := by have := HP.out.1; omega
 go_enter Try.func38, Try.ntmps38
 go_upto_region 1 with fail
 refine wp_gen (fun u => PgI w0 w (.slice av P.length cv) vs G P.length u) S0.out ?_
 intro V hV
 have JV := hid hV
 obtain ⟨c0, c1⟩ := hV.cells
 clear hV S0
 cases d with
 | zero =>
  have h0 : ((((0 : Nat) : Int)) == 0) = true := rfl
  go_wp2
  go_ret
  exact ⟨false, rfl, JV.out.s, JV.out.c⟩
 | succ d' =>
  obtain ⟨mo, hmo⟩ : ∃ mo : Int, mo = ((d' + 1 : Nat) : Int) := ⟨_, rfl⟩
  rw [← hmo]
  have h0 : (mo == 0) = false := by rw [beq_eq_false_iff_ne]; omega
  have HMO : Hid (mo = ((d' + 1 : Nat) : Int)) := hmo
  have hmo1 : (1 : Int) ≤ mo := by omega
  have hmo2 : mo ≤ 8 := by omega
  clear hmo
  by_cases hin : 0 ≤ a ∧ a < (P.length : Int)
  ·have hin' : inB a 0 ((P.length : Int) - 1) = true := inB_true hin.1 (by omega)
   obtain ⟨k, hk0⟩ : ∃ k : Nat, a = k := ⟨a.toNat, by omega⟩
   subst hk0
   have hk : k < P.length := by omega
   have hav := HV.out.1 (by omega)
   subst hav
   have hkp : k < P.length := hk
   have hk3 : (0 : Int) ≤ (k : Int) := by omega
   have hk4 : (k : Int) < (P.length : Int) := by omega
   obtain ⟨b0, s0⟩ := JV.out.s.get hk
   have s1 := JV.out.s.live k
   have P0 : w0.cell? ⟨bv, ov + k, none⟩ = some (.string (sOf P k)) := HV.out.2 _ _ (flatS_at P k hk)
   have J1 := hid (JV.out.seen k)
   have p1 : (V.setCell ⟨G, k, none⟩ (.bool true)).cell? ⟨bv, ov + k, none⟩ = some (.string (sOf P k)) := (J1.out.b.cell (p := ⟨bv, ov + k, none⟩) (by exact cell_lt P0)).trans P0
   obtain ⟨e0, e1⟩ := J1.out.cells
   have hm : sOf P k ∈ P := by
    rw [show sOf P k = P[k] by simp [sOf, List.getD, hk]]
    exact List.getElem_mem hk
   have hz := HP.out.2 _ hm
   have RB := row_bytes (V.setCell ⟨G, k, none⟩ (.bool true)) 5 (sOf P k) (by unfold maxLen; omega)
   rw [show (V.setCell ⟨G, k, none⟩ (.bool true)).heap.size = V.heap.size by simp] at RB
   have HN := hid (gotNode_any _ (bytesOf (sOf P k)) _ RB (bytesOf_in _) (by rw [bytesOf_length]; omega))
   clear RB
   have J2 := hid (J1.out.low (bel_bytes (V.setCell ⟨G, k, none⟩ (.bool true)) 5 (sOf P k)))
   clear P0 hm
   generalize sOf P k = st at *
   go_wp2_with fail
   refine (l1In_any _ _ _ _).mono ?_
   rintro e W3 ⟨rfl, rfl⟩
   rw [hin']
   go_wp2_with fail
   refine Calls.mono HN.out ?_
   rintro e w3 ⟨xf, xa1, xa2, xa3, xa4, xn1, xn2, xn3, xn4, xq1, xq2, xq3, xq4, vk, ks, ok, rfl, hk4, ho, hb3⟩
   have J3 := hid (J2.out.low hb3)
   obtain ⟨ka, kq, rfl⟩ := ho.slice
   have hGB : G < (Go.Lib.bytesWorld (W3.setCell ⟨G, k, none⟩ (.bool true)) 5 st).heap.size + 1 := by have := J2.out.s.lt; omega
   generalize (Go.Lib.bytesWorld (W3.setCell ⟨G, k, none⟩ (.bool true)) 5 st).heap.size + 1 = B at *
   have KO := hid ho
   clear ho hb3 HN J2 J1 p1 e0 e1 s0 s1 hz c0 c1 hcv hv1 hv2
   go_upto_region 5 with fail
   refine wp_gen (fun u => PgI w0 w (.slice (some ⟨bv, ov, none⟩) P.length cv) vs G P.length u ∧ OwnE u B 3 1 (.slice ka ks.length kq) ks.length (flatI ks)) ⟨J3.out.low (al1 _ _), KO.out.below (al1 _ _)⟩ ?_
   intro W4 hW4
   have J4 := hid hW4
   clear hW4 J3 KO
   go_wp2_with fail
   go_loopw [12] (fun i wr => ∃ j : Nat, j ≤ ks.length ∧ i = .int .i64 j ∧ Hid (PgI w0 w (.slice (some ⟨bv, ov, none⟩) P.length cv) vs G P.length wr ∧ OwnE wr B 3 1 (.slice ka ks.length kq) ks.length (flatI ks))) (fun i _ => ks.length - (intOf i).toNat)
   case atStart => exact ⟨0, Nat.zero_le _, rfl, J4.out⟩
   case round =>
    obtain ⟨j, hj, rfl, J⟩ := hrel
    clear J4
    by_cases hlt : j < ks.length
    ·cases ok with
     | false =>
      go_wp2
      go_ret
      exact ⟨true, rfl, J.out.1.s, J.out.1.c⟩
     | true =>
      obtain ⟨gk, q, hv, hw, ck⟩ := ownE_at J.out.2 rfl hlt
      injection hv with e1 e2 e3
      subst e1 e3
      have hgk := (J.out.2.lt gk hw).1
      have KEEP : Hid (∀ u, Chg (fun g => g = G) wr u → Seen u G P.length → (PgI w0 w (.slice (some ⟨bv, ov, none⟩) P.length cv) vs G P.length u ∧ OwnE u B 3 1 (.slice (some ⟨gk, 0, none⟩) ks.length kq) ks.length (flatI ks)) ∧ (u.cell? ⟨w.heap.size, 0, none⟩ = some (.slice (some ⟨bv, ov, none⟩) P.length cv) ∧ u.cell? ⟨w.heap.size, 1, none⟩ = some vs ∧ u.cell? ⟨gk, j, none⟩ = some (.int .i64 (iAt ks j)))) := fun u hc hs => by
       have j2 := J.out.1.step hc hs
       exact ⟨⟨j2, J.out.2.chg hc (fun g hg e => by have := (J.out.2.lt g hg).1; omega)⟩, j2.cells.1, j2.cells.2, cell_chg ck hc (by omega)⟩
      have hmd : IntKind.i64.wrap (mo - 1) = (d' : Int) := by rw [wrap_small (mo - 1) (by omega) (by omega)]; have := HMO.out; omega
      have DR : Hid (Chg (fun g => g = G) wr wr.drew) := Chg.of_below (Below.refl _ _).drew
      have K0 := hid (KEEP.out wr.drew DR.out (J.out.1.s.below (Below.refl _ _).drew))
      have HC := hid (HI.out d' rfl (iAt ks j) wr.drew K0.out.1.1.b K0.out.1.1.s)
      rw [← hmd] at HC
      have hb1 : (0 : Int) ≤ (j : Int) := by omega
      have hb2 : (j : Int) < (ks.length : Int) := by omega
      have hk5 : (ks.length : Int) ≤ 4 := by omega
      clear hmd ck hgk J HI hw
      generalize iAt ks j = kv at *
      go_wp2_with fail
      refine wp_region_held_drew (S := fun u => u.cell? ⟨w.heap.size, 0, none⟩ = some (.slice (some ⟨bv, ov, none⟩) P.length cv) ∧ u.cell? ⟨w.heap.size, 1, none⟩ = some vs ∧ u.cell? ⟨gk, j, none⟩ = some (.int .i64 kv)) (by kernel_rfl) K0.out.2 (fun hH => ?_)
      refine tq 0 rfl (by kernel_rfl) (fun _ _ _ h => h) (by assumption) rfl (by intro w h; go_simp <;> with_reducible rfl) ?_
      try simp only [Act.put, List.setIfInBounds_toArray, List.set_cons_zero, List.set_cons_succ]
      refine tq 1 rfl (by kernel_rfl) (fun _ _ _ h => h) (by assumption) rfl (by intro w h; go_simp <;> with_reducible rfl) ?_
      try simp only [Act.put, List.setIfInBounds_toArray, List.set_cons_zero, List.set_cons_succ]
      refine tq 2 rfl (by kernel_rfl) (fun _ _ _ h => h) (by assumption) rfl (by intro w h; go_simp <;> with_reducible rfl) ?_
      try simp only [Act.put, List.setIfInBounds_toArray, List.set_cons_zero, List.set_cons_succ]
      refine tq 3 rfl (by kernel_rfl) (fun _ _ _ h => h) (by assumption) rfl (by intro w h; go_simp <;> with_reducible rfl) ?_
      try simp only [Act.put, List.setIfInBounds_toArray, List.set_cons_zero, List.set_cons_succ]
      refine tq 4 rfl (by kernel_rfl) (fun _ _ _ h => h) (by assumption) rfl (by intro w h; go_simp <;> with_reducible rfl) ?_
      try simp only [Act.put, List.setIfInBounds_toArray, List.set_cons_zero, List.set_cons_succ]
      refine tq 5 rfl (by kernel_rfl) (fun _ _ _ h => h) (by assumption) rfl (by intro w h; go_simp <;> with_reducible rfl) ?_
      try simp only [Act.put, List.setIfInBounds_toArray, List.set_cons_zero, List.set_cons_succ]
      refine tq 6 rfl (by kernel_rfl) (fun _ _ _ h => h) (by assumption) rfl (by intro w h; go_simp <;> with_reducible rfl) ?_
      try simp only [Act.put, List.setIfInBounds_toArray, List.set_cons_zero, List.set_cons_succ]
      refine tq 7 rfl (by kernel_rfl) (fun _ _ _ h => h) (by assumption) rfl (by intro w h; go_simp <;> with_reducible rfl) ?_
      try simp only [Act.put, List.setIfInBounds_toArray, List.set_cons_zero, List.set_cons_succ]
      refine rq 8 (by kernel_rfl) rfl (fun K hK => ?_)
      refine step_func rfl 38 [.tmp 47, .tmp 51, .tmp 53, .tmp 54] #[27, 3, 3, 36] rfl run_l6Pages [.agg #[(.slice (some ⟨bv, ov, none⟩) P.length cv), vs], .int .i64 kv, .int .i64 (IntKind.i64.wrap (mo - 1)), .slice (some ⟨G, 0, none⟩) P.length P.length] rfl HC.out ?_
      rintro e w5 ⟨r, rfl, s5, c5⟩
      refine ⟨_, rfl, ?_⟩
      have K5 := hid (KEEP.out w5 (DR.out.trans c5 (fun _ _ e => e)) s5)
      clear s5 c5 K0 HC DR KEEP
      refine hK.out _ _ K5.out.2 (fun hH2 => ?_)
      clear hK K hH
      have hH := hH2
      clear hH2
      try simp only [Act.put, List.setIfInBounds_toArray, List.set_cons_zero, List.set_cons_succ]
      refine tq 9 rfl (by kernel_rfl) (fun _ _ _ h => h) (by assumption) rfl (by intro w h; go_simp <;> with_reducible rfl) ?_
      try simp only [Act.put, List.setIfInBounds_toArray, List.set_cons_zero, List.set_cons_succ]
      refine wpAnyH_done (by kernel_rfl) ?_ _
      clear hH
      cases r with
      | true =>
       go_wp2
       go_roundw
       case rel => exact ⟨j + 1, by omega, by go_num, K5.out.1⟩
       case measure => simp [intOf]; omega
      | false =>
       go_wp2
       go_ret
       exact ⟨false, rfl, K5.out.1.1.s, K5.out.1.1.c⟩
    ·have hje : j = ks.length := by omega
     subst hje
     go_wp2
     go_ret
     exact ⟨true, rfl, J.out.1.s, J.out.1.c⟩
  ·have hin' : inB a 0 ((P.length : Int) - 1) = false := by
    rcases Int.lt_or_le a 0 with h | h
    ·exact inB_false1 (by omega)
    ·exact inB_false2 (by omega)
   go_wp2_with fail
   refine (l1In_any _ _ _ _).mono ?_
   rintro e W3 ⟨rfl, rfl⟩
   rw [hin']
   go_wp2
   go_ret
   exact ⟨false, rfl, JV.out.s, JV.out.c⟩

theorem l6Pages_any (w0 : World) (vp vs : Value) (P : PgL) (hP : PageOk P) (hr : Row w0 vp P.length (flatS P)) (G : Nat) (hG : w0.heap.size ≤ G) : ∀ (d : Nat), d ≤ 8 → ∀ (a : Int) (w : World), Below w0.heap.size w0 w → Seen w G P.length →
  Calls Try.prog 38 #[.agg #[vp, vs], .int .i64 a, .int .i64 (d : Int), .slice (some ⟨G, 0, none⟩) P.length P.length] w (PgPost G P.length w)
 | 0, hd, a, w, hb, hs => l6Pages_step w0 vp vs P hP hr G hG 0 hd (fun d' e => by omega) a w hb hs
 | d + 1, hd, a, w, hb, hs => l6Pages_step w0 vp vs P hP hr G hG (d + 1) hd (fun d' e a w hb hs => by
   obtain rfl : d = d' := by omega
   exact l6Pages_any w0 vp vs P hP hr G hG d (by omega) a w hb hs) a w hb hs
end
section
open Go.RowKit

theorem seen_made {w : World} {G n : Nat} (h : w.ownsRow G 4 1 (.slice (some ⟨G, 0, none⟩) n n) n (madeCells #[.bool false] n).toList) : Seen w G n := by
 refine ⟨List.replicate n false, by simp, ?_⟩
 rw [madeCells_all _ (.bool false) (by decide) (fun i hi => by match i, hi with | 0, _ => rfl)] at h
 simpa [flatL] using h
structure TkI (w : World) (vp vs : Value) (A n : Nat) (u : World) : Prop where
 b : Below w.heap.size w u
 x : u.heap[w.heap.size]? = some (.cells #[vp, vs] 27)
 s : Seen u A n
 a : w.heap.size < A
theorem TkI.low {w : World} {vp vs : Value} {A n : Nat} {u u' : World} (h : TkI w vp vs A n u) (hb : Below u.heap.size u u') : TkI w vp vs A n u' :=
 ⟨h.b.trans (hb.mono h.b.size), row_chg h.x (Chg.of_below (F := fun _ => False) hb) id, h.s.below hb, h.a⟩
theorem TkI.other {w : World} {vp vs : Value} {A n G : Nat} {u u' : World} (h : TkI w vp vs A n u) (hc : Chg (fun g => g = G) u u') (hG : A < G) : TkI w vp vs A n u' :=
 ⟨h.b.trans (hc.below (fun g _ e => by have := h.a; omega) h.b.size), row_chg h.x hc (by have := h.a; omega), h.s.chg hc (by omega), h.a⟩
theorem TkI.put {w : World} {vp vs : Value} {A n : Nat} {u : World} (h : TkI w vp vs A n u) (i : Nat) (b : Bool) : TkI w vp vs A n (u.setCell ⟨A, i, none⟩ (.bool b)) :=
 ⟨h.b.setCell (p := ⟨A, i, none⟩) (by show w.heap.size ≤ A; have := h.a; omega) _, row_chg h.x ((Chg.refl (fun g => g = A) _).setAt A i rfl _) (by have := h.a; omega), h.s.set i b, h.a⟩
theorem TkI.cells {w : World} {vp vs : Value} {A n : Nat} {u : World} (h : TkI w vp vs A n u) : u.cell? ⟨w.heap.size, 0, none⟩ = some vp ∧ u.cell? ⟨w.heap.size, 1, none⟩ = some vs := ⟨cell_of_cells h.x, cell_of_cells h.x⟩

theorem l6Taken_any (vp vs : Value) (P : PgL) (S : SL) (hP : PageOk P) (w : World) (hr : Row w vp P.length (flatS P)) (hs : Row w vs S.length (flatP S)) :
  Calls Try.prog 29 #[.agg #[vp, vs]] w fun e w' => ∃ G, e = .returned (.slice (some ⟨G, 0, none⟩) P.length P.length) ∧ w.heap.size ≤ G ∧ Seen w' G P.length ∧ Below w.heap.size w w' := by
 obtain ⟨i0, hi, hz0, hz1, hz2⟩ := info_parts Try.info4
 obtain ⟨pa, pq, rfl, hpm⟩ := hr.len
 obtain ⟨sa, sb, so, sq, rfl, hscap, hsmax, hsa, hsk, hsv⟩ := hs.pairs
 unfold maxLen at hsmax
 have hlen := hP.1
 have PG := hid (fun (G : Nat) (hG : w.heap.size ≤ G) (a : Int) (u : World) (hb : Below w.heap.size w u) (h : Seen u G P.length) => l6Pages_any w (.slice pa P.length pq) (.slice sa S.length sq) P hP hr G hG 7 (by decide) a u hb h)
 have SK : Hid _ := And.intro hsa (And.intro hsk hsv)
 clear hr hs hsa hsk hsv hP
 generalize P.length = n at *
 have al := al1 w (.cells #[.slice pa n pq, .slice sa S.length sq] 27)
 have X0 := hid (heap_alloc_new w (.cells #[.slice pa n pq, .slice sa S.length sq] 27))
 have s0 : (w.alloc (.cells #[.slice pa n pq, .slice sa S.length sq] 27)).heap.size = w.heap.size + 1 := by simp
 go_enter Try.func29, Try.ntmps29
 go_upto_region 1 with fail
 refine wp_gen (fun u => Below w.heap.size w u ∧ u.heap[w.heap.size]? = some (.cells #[.slice pa n pq, .slice sa S.length sq] 27) ∧ Hid (w.heap.size < u.heap.size)) ⟨al, X0.out, by show _ < _; omega⟩ ?_
 rintro V ⟨hVb, hVx, hVs⟩
 have d0 : V.cell? ⟨w.heap.size, 0, none⟩ = some (.slice pa n pq) := cell_of_cells hVx
 have BV := hid hVb
 have XV := hid hVx
 clear al X0 s0 hVb hVx
 go_wp2_with (at_make; refine wpList_make_full _ rfl _ _ 36 rfl V.heap.size 4 i0 _ 1 Try.underlying36 hi hz0 hz1 .i64 .i64 _ _ n rfl rfl rfl rfl (by rw [hz2]; omega) (by unfold maxLen; omega) (Nat.le_refl _) ?_)
 intro w1 hown hgrow
 have G1 := chg_of_grown hgrow
 have hb1 : Below V.heap.size V w1 := G1.below (fun g _ hg => by simp at hg) (Nat.le_refl _)
 have T1 : Hid (TkI w (.slice pa n pq) (.slice sa S.length sq) V.heap.size n w1) := ⟨BV.out.trans (hb1.mono BV.out.size), row_chg XV.out (Chg.of_below (F := fun _ => False) hb1) id, seen_made hown, hVs.out⟩
 clear hown hgrow G1 hb1 BV XV d0
 generalize V.heap.size = A at *
 clear hVs
 go_wp2_with fail
 go_loopw [4] (fun i wr => ∃ j : Nat, j ≤ S.length ∧ i = .int .i64 j ∧ Hid (TkI w (.slice pa n pq) (.slice sa S.length sq) A n wr)) (fun i _ => S.length - (intOf i).toNat)
 case atStart => exact ⟨0, Nat.zero_le _, rfl, T1.out⟩
 case round =>
  obtain ⟨j, hj, rfl, J⟩ := hrel
  clear T1
  obtain ⟨d0, d1⟩ := J.out.cells
  by_cases hlt : j < S.length
  ·have hal := SK.out.1 (by omega)
   subst hal
   have c0 := (J.out.b.cell (by exact cell_lt (SK.out.2.1 j hlt))).trans (SK.out.2.1 j hlt)
   have c1 := (J.out.b.cell (by exact cell_lt (SK.out.2.2 j hlt))).trans (SK.out.2.2 j hlt)
   have hb1 : (0 : Int) ≤ (j : Int) := by omega
   have hb2 : (j : Int) < (S.length : Int) := by omega
   have hb3 : (S.length : Int) ≤ 9223372036854775807 := by omega
   generalize kOf S j = ver at *
   generalize vOf S j = root at *
   by_cases hv : ver ≤ 0
   ·clear c1
    go_wp2
    go_roundw
    case rel => exact ⟨j + 1, by omega, by go_num, J.out⟩
    case measure => simp [intOf]; omega
   ·go_wp2_with (at_make; refine wpList_make_full _ rfl _ _ 36 rfl wr.heap.size 4 i0 _ 1 Try.underlying36 hi hz0 hz1 .i64 .i64 _ _ n rfl rfl rfl rfl (by rw [hz2]; omega) (by unfold maxLen; omega) (Nat.le_refl _) ?_)
    intro w2 hown hgrow
    have G1 := chg_of_grown hgrow
    have hb5 : Below wr.heap.size wr w2 := G1.below (fun g _ hg => by simp at hg) (Nat.le_refl _)
    have hAG : A < wr.heap.size := J.out.s.lt
    have J2 := hid (And.intro (J.out.low hb5) (seen_made hown))
    have c2 : w2.cell? ⟨sb, so + j * 2 + 1, none⟩ = some (.int .i64 root) := (hb5.cell (by exact cell_lt c1)).trans c1
    clear hown hgrow G1 J d0 d1 c0 c1 hb5
    have HG : Hid (A < wr.heap.size ∧ w.heap.size ≤ wr.heap.size) := ⟨hAG, by have := J2.out.1.a; omega⟩
    generalize wr.heap.size = G at *
    have hAG1 := HG.out.1
    clear hAG
    have b2 := Below.refl w2.heap.size w2
    have DR := hid (And.intro (J2.out.1.low (Below.refl _ w2).drew) (And.intro (J2.out.2.below (Below.refl _ w2).drew) (((Below.refl w2.heap.size w2).drew.cell (by exact cell_lt c2)).trans c2)))
    have HC := hid (PG.out G HG.out.2 root w2.drew DR.out.1.b DR.out.2.1)
    clear c2 b2
    go_wp2_with fail
    refine wp_region_held_drew (S := fun u => u.cell? ⟨w.heap.size, 0, none⟩ = some (.slice pa n pq) ∧ u.cell? ⟨w.heap.size, 1, none⟩ = some (.slice (some ⟨sb, so, none⟩) S.length sq) ∧ u.cell? ⟨sb, so + j * 2 + 1, none⟩ = some (.int .i64 root)) (by kernel_rfl) ⟨DR.out.1.cells.1, DR.out.1.cells.2, DR.out.2.2⟩ (fun hH => ?_)
    refine tq 0 rfl (by kernel_rfl) (fun _ _ _ h => h) (by assumption) rfl (by intro w h; go_simp <;> with_reducible rfl) ?_
    try simp only [Act.put, List.setIfInBounds_toArray, List.set_cons_zero, List.set_cons_succ]
    refine tq 1 rfl (by kernel_rfl) (fun _ _ _ h => h) (by assumption) rfl (by intro w h; go_simp <;> with_reducible rfl) ?_
    try simp only [Act.put, List.setIfInBounds_toArray, List.set_cons_zero, List.set_cons_succ]
    refine tq 2 rfl (by kernel_rfl) (fun _ _ _ h => h) (by assumption) rfl (by intro w h; go_simp <;> with_reducible rfl) ?_
    try simp only [Act.put, List.setIfInBounds_toArray, List.set_cons_zero, List.set_cons_succ]
    refine tq 3 rfl (by kernel_rfl) (fun _ _ _ h => h) (by assumption) rfl (by intro w h; go_simp <;> with_reducible rfl) ?_
    try simp only [Act.put, List.setIfInBounds_toArray, List.set_cons_zero, List.set_cons_succ]
    refine tq 4 rfl (by kernel_rfl) (fun _ _ _ h => h) (by assumption) rfl (by intro w h; go_simp <;> with_reducible rfl) ?_
    try simp only [Act.put, List.setIfInBounds_toArray, List.set_cons_zero, List.set_cons_succ]
    refine tq 5 rfl (by kernel_rfl) (fun _ _ _ h => h) (by assumption) rfl (by intro w h; go_simp <;> with_reducible rfl) ?_
    try simp only [Act.put, List.setIfInBounds_toArray, List.set_cons_zero, List.set_cons_succ]
    refine tq 6 rfl (by kernel_rfl) (fun _ _ _ h => h) (by assumption) rfl (by intro w h; go_simp <;> with_reducible rfl) ?_
    try simp only [Act.put, List.setIfInBounds_toArray, List.set_cons_zero, List.set_cons_succ]
    refine tq 7 rfl (by kernel_rfl) (fun _ _ _ h => h) (by assumption) rfl (by intro w h; go_simp <;> with_reducible rfl) ?_
    try simp only [Act.put, List.setIfInBounds_toArray, List.set_cons_zero, List.set_cons_succ]
    refine rq 8 (by kernel_rfl) rfl (fun K hK => ?_)
    refine step_func rfl 38 [.tmp 29, .tmp 35, .const (.int .i64 7), .tmp 36] #[27, 3, 3, 36] rfl run_l6Pages [.agg #[.slice pa n pq, .slice (some ⟨sb, so, none⟩) S.length sq], .int .i64 root, .int .i64 7, .slice (some ⟨G, 0, none⟩) n n] rfl HC.out ?_
    rintro e w5 ⟨r, rfl, s5, c5⟩
    refine ⟨_, rfl, ?_⟩
    have J5 := hid (And.intro (DR.out.1.other c5 hAG1) s5)
    have x5 : w5.cell? ⟨sb, so + j * 2 + 1, none⟩ = some (.int .i64 root) := cell_chg DR.out.2.2 c5 (fun (e : sb = G) => by have h1 := cell_lt (SK.out.2.1 j hlt); have h2 := HG.out.2; simp at h1; omega)
    refine hK.out _ _ ⟨J5.out.1.cells.1, J5.out.1.cells.2, x5⟩ (fun hH2 => ?_)
    clear hK K hH hH2 s5 c5 x5 HC DR
    try simp only [Act.put, List.setIfInBounds_toArray, List.set_cons_zero, List.set_cons_succ]
    refine wpAnyH_done (by kernel_rfl) ?_ _
    cases r with
    | false =>
     go_wp2
     go_roundw
     case rel => exact ⟨j + 1, by omega, by go_num, J5.out.1⟩
     case measure => simp [intOf]; omega
    | true =>
     go_wp2_with fail
     go_loopw [6] (fun i u => ∃ k : Nat, k ≤ n ∧ i = .int .i64 k ∧ Hid (TkI w (.slice pa n pq) (.slice (some ⟨sb, so, none⟩) S.length sq) A n u ∧ Seen u G n)) (fun i _ => n - (intOf i).toNat)
     case atStart => exact ⟨0, Nat.zero_le _, rfl, J5.out⟩
     case round =>
      obtain ⟨k, hk, rfl, J⟩ := hrel
      clear J5
      by_cases hkn : k < n
      ·obtain ⟨b1, y1⟩ := J.out.1.s.get hkn
       obtain ⟨b2, y2⟩ := J.out.2.get hkn
       have y3 := J.out.1.s.live k
       have hk0 : (0 : Int) ≤ (k : Int) := by omega
       have hk1 : (k : Int) < (n : Int) := by omega
       have hn3 : (n : Int) ≤ 200 := by omega
       have F : Hid (∀ b : Bool, TkI w (.slice pa n pq) (.slice (some ⟨sb, so, none⟩) S.length sq) A n (wr.setCell ⟨A, k, none⟩ (.bool b)) ∧ Seen (wr.setCell ⟨A, k, none⟩ (.bool b)) G n) := fun b => ⟨J.out.1.put k b, J.out.2.chg ((Chg.refl (fun g => g = A) _).setAt A k rfl _) (by omega)⟩
       cases b1 with
       | true =>
        go_wp2
        go_roundw
        case rel => exact ⟨k + 1, by omega, by go_num, F.out _⟩
        case measure => simp [intOf]; omega
       | false =>
        go_wp2
        go_roundw
        case rel => exact ⟨k + 1, by omega, by go_num, F.out _⟩
        case measure => simp [intOf]; omega
      ·go_wp2
       go_roundw
       case rel => exact ⟨j + 1, by omega, by go_num, J.out.1⟩
       case measure => simp [intOf]; omega
  ·have hje : j = S.length := by omega
   subst hje
   go_wp2
   go_ret
   exact ⟨A, rfl, by have := J.out.a; omega, J.out.s, J.out.b⟩
end
section
open Go.RowKit

def Code8 (w : World) (v : Value) (bs : List Int) : Prop := Row w v bs.length (bs.map (Value.int .u8)) ∧ ∀ j, 0 ≤ bs.getD j 0 ∧ bs.getD j 0 ≤ 255
theorem Code8.below {w w' : World} {v : Value} {bs : List Int} (h : Code8 w v bs) (hb : Below w.heap.size w w') : Code8 w' v bs := ⟨h.1.below hb, h.2⟩

theorem l1New_any (v : Value) (bs : List Int) (w : World) (hc : Code8 w v bs) (hn : bs.length ≤ 1048576) :
  Calls Try.prog 17 #[v] w fun e w' => e = .returned (.pointer (some ⟨w.heap.size, 0, none⟩)) ∧ Cur w' w.heap.size ∧ w.heap.size < w'.heap.size ∧ Below w.heap.size w w' := by
 obtain ⟨⟨a, b, off, cap, rfl, hcap, hmax, ha, hk, _⟩, hb⟩ := hc
 have hcell : ∀ j, j < bs.length → w.cell? ⟨b, off + j, none⟩ = some (.int .u8 (bs.getD j 0)) := fun j hj => hk j _ (by simp [hj, List.getD])
 have FIN : Hid (∀ x, Cur (w.alloc (.cells #[.slice a bs.length cap, .int .i64 0, .int .i64 x] 62)) w.heap.size) := by
  intro x
  refine ⟨a, bs.length, cap, b, off, bs, 0, x, heap_alloc_new _ _, hn, Nat.zero_le _, fun h0 => ⟨ha h0, ?_⟩, fun j hj => ?_, hb⟩
  ·have := cell_lt (hcell 0 h0); simp at this; omega
  ·have := hcell j hj
   rw [← this]
   exact ((Below.refl _ _).alloc (Nat.le_refl _) _).cell (cell_lt this)
 unfold maxLen at hmax
 clear hk
 go_enter Try.func17, Try.ntmps17
 go_wp2
 go_loop [3, 4] (fun h i => ∃ (k : Nat) (x : Int), k ≤ bs.length ∧ k ≤ 4000 ∧ i = .int .i64 k ∧ h = .int .i64 x) (fun _ i => 4000 - (intOf i).toNat)
 case atStart => exact ⟨0, _, Nat.zero_le _, Nat.zero_le _, rfl, rfl⟩
 case round =>
  obtain ⟨k, x, hk1, hk2, rfl, rfl⟩ := hrel
  by_cases hlt : k < bs.length
  ·by_cases hlt2 : k < 4000
   ·have hal := ha (by omega)
    subst hal
    have d0 := hcell k hlt
    obtain ⟨hy0, hy1⟩ := hb k
    generalize bs.getD k 0 = y at *
    clear hcell hb
    go_wp2
    go_round
    case rel => exact ⟨k + 1, _, by omega, by omega, by go_num, rfl⟩
    case measure => simp [intOf]; omega
   ·clear hcell hb
    go_wp2
    go_ret
    exact ⟨rfl, FIN.out _, by simp, (Below.refl _ _).alloc (Nat.le_refl _) _⟩
  ·clear hcell hb
   go_wp2
   go_ret
   exact ⟨rfl, FIN.out _, by simp, (Below.refl _ _).alloc (Nat.le_refl _) _⟩

theorem Cur.lt {w : World} {C : Nat} (h : Cur w C) : C < w.heap.size := by
 obtain ⟨a, n, cap, b, off, bs, i, h, h1, _⟩ := h
 exact (Array.getElem?_eq_some_iff.1 h1).1
theorem Cur.alloc {w : World} {C : Nat} (h : Cur w C) (o : Obj) : Cur (w.alloc o) C := h.below ((Below.refl _ _).alloc (Nat.le_refl _) o)

theorem l1DrawKey_any (C : Nat) (w : World) (hc : Cur w C) :
  Calls Try.prog 51 #[.pointer (some ⟨C, 0, none⟩)] w fun e w' => ∃ x : Int, e = .returned (.int .i64 x) ∧ 0 ≤ x ∧ x ≤ 999 ∧ Cur w' C ∧ Chg (fun g => g = C) w w' := by
 go_enter Try.func51, Try.ntmps51
 go_wp2_with fail
 refine (l1Once_any C 15 _ hc (by decide)).mono ?_
 rintro e w1 ⟨x, rfl, c1, g1⟩
 have F1 : Hid _ := And.intro c1 g1
 have hlt := c1.lt
 clear c1 g1
 cases x
 ·go_wp2_with fail
  refine (l1Below_any C 30 _ F1.out.1 (by decide)).mono ?_
  rintro e w2 ⟨y, rfl, hy0, hy1, _, c2, g2⟩
  have F2 : Hid _ := And.intro c2 (F1.out.2.trans g2 (fun _ _ e => e))
  clear c2 g2
  go_wp2
  go_ret
  exact ⟨y, rfl, hy0, by have := hy1 (by decide); omega, F2.out.1, F2.out.2⟩
 ·go_wp2_with fail
  refine (l1PickInt_any C w1.heap.size [0, 999, 500] (by decide) (by decide) _ (F1.out.1.alloc _) (heap_alloc_new _ _) (by omega)).mono ?_
  rintro e w2 ⟨y, rfl, hy, c2, g2⟩
  have F2 : Hid _ := And.intro c2 ((F1.out.2.alloc _).trans g2 (fun _ _ e => e))
  clear c2 g2
  go_wp2
  go_ret
  refine ⟨y, rfl, ?_, ?_, F2.out.1, F2.out.2⟩ <;> (simp at hy; omega)
end
section
open Go.RowKit

theorem big_any (a : Option Addr) (n cap : Nat) (hn : n ≤ maxLen) (w : World) :
  Calls Try.prog 4 #[.slice a n cap] w fun e w' => e = .returned (.bool (decide (n > 1048576))) ∧ w' = w := by
 unfold maxLen at hn
 by_cases h : n > 1048576
 ·have hd : decide ((n : Int) > 1048576) = true := decide_eq_true (by omega)
  go_enter Try.func4, Try.ntmps4
  go_wp2
  go_ret
  exact ⟨ret_bool (by simp [h]; try omega), rfl⟩
 ·go_enter Try.func4, Try.ntmps4
  go_wp2
  go_ret
  exact ⟨ret_bool (by simp [h]; try omega), rfl⟩

theorem conv_own {base : Nat} {u : World} {v : Value} {l : List Int} (h : OwnB base u v l) : (convert 22 9 v).run Try.prog u = .ok (.string (strOfNums l)) u := by
 have h0 := h
 obtain ⟨hl, ⟨rfl, hz⟩ | ⟨g, cap, cur, rfl, _⟩⟩ := h
 ·have : l = [] := List.length_eq_zero_iff.1 hz
  subst this
  exact run_convert_bytes_nil u 22 5 Try.underlying22 Try.underlying5 0 0 9 Try.underlying9
 ·refine run_convert_bytes_arg u 22 5 Try.underlying22 Try.underlying5 g 0 l.length cap l rfl (fun i hi => ?_) 9 Try.underlying9
  rw [Nat.zero_add]
  exact (World.ownsRow.cellAt h0 i (by omega)).trans (flatB_at l i hi)
end
end Go.Proofs.Ytekcnibohikmdaa
