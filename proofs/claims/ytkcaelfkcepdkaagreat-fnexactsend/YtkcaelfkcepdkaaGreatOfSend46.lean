/-
  RegLast once more, where the last operation waits for some of the others through one that it waits for.
  withRoom: as many of a list as there is room for.
  The program's send: as many as there is room for stand behind the net.
-/
import Derived.Test.YtkcaelfkcepdkaaGreatOfSend9
import Derived.Test.YtkcaelfkcepdkaaGreatOfSend45
import Derived.Test.YtkcaelfkcepdkaaGreatOfSend40
import Derived.Test.YtkcaelfkcepdkaaGreatOfSend37
namespace Go.Proofs.YtkcaelfkcepdkaaGreat
set_option maxRecDepth 100000
set_option maxHeartbeats 8000000
section
open Go.RowKit

def lastC (l : List Oper) (st : Oper) : Bool :=
 (List.range l.length).all (fun i => match l[i]? with
  | some o => o.guard.isNone && o.after.toList.all fun e => decide (e.on < i)
  | none => false) && (st.guard.isNone && ((List.range l.length).all (fun i => st.after.toList.any fun e => Region.binds .any e && (decide (e.on = i) || match l[e.on]? with
   | some o => o.after.toList.any fun e2 => Region.binds .any e2 && decide (e2.on = i)
   | none => false)) && st.after.toList.all fun e => decide (e.on < l.length)))

variable {P : Program} {l : List Oper} {st : Oper} {Q : Exit → Act → World → Prop}

theorem lastC_parts (h : lastC l st = true) : (∀ (i : Nat) (o : Oper), l[i]? = some o → o.guard = none ∧ ∀ e ∈ o.after, e.on < i) ∧ st.guard = none ∧ (∀ i, i < l.length → ∃ e ∈ st.after, Region.binds .any e = true ∧ (e.on = i ∨ ∃ o, l[e.on]? = some o ∧ ∃ e2 ∈ o.after, Region.binds .any e2 = true ∧ e2.on = i)) ∧ ∀ e ∈ st.after, e.on < l.length := by
 simp only [lastC, Bool.and_eq_true, List.all_eq_true, List.mem_range, List.any_eq_true, Bool.or_eq_true, decide_eq_true_eq] at h
 obtain ⟨h1, h2, h3, h4⟩ := h
 refine ⟨fun i o ho => ?_, by simpa using h2, fun i hi => ?_, fun e he => h4 e (by simpa using he)⟩
 ·have := h1 i (List.getElem?_eq_some_iff.1 ho).1
  rw [ho] at this
  simp only [Bool.and_eq_true, List.all_eq_true, decide_eq_true_eq] at this
  exact ⟨by simpa using this.1, fun e he => this.2 e (by simpa using he)⟩
 ·obtain ⟨e, he, hb, hon⟩ := h3 i hi
  refine ⟨e, by simpa using he, hb, ?_⟩
  rcases hon with hon | hon
  ·exact .inl hon
  ·rcases ho : l[e.on]? with _ | o
   ·rw [ho] at hon; cases hon
   ·rw [ho] at hon
    simp only [List.any_eq_true, Bool.and_eq_true, decide_eq_true_eq] at hon
    obtain ⟨e2, he2, hb2, hon2⟩ := hon
    exact .inr ⟨o, rfl, e2, by simpa using he2, hb2, hon2⟩
def ClosB (l : List Oper) (listed : Array Bool) : Prop := ∀ (j : Nat) (o : Oper), l[j]? = some o → listed.getD j false = true → ∀ e ∈ o.after, Region.binds .any e = true → listed.getD e.on false = true
theorem ClosB.start (l : List Oper) : ClosB l (Array.replicate l.length false) := fun j o ho hj => by
 have := (List.getElem?_eq_some_iff.1 ho).1
 simp [this] at hj
theorem getD_set_up {listed : Array Bool} {i k : Nat} (hi : i < listed.size) (h : listed.getD k false = true) : (listed.setIfInBounds i true).getD k false = true := by
 by_cases hk : k = i
 ·subst hk; simp [hi]
 ·rw [getD_set_ne false (Ne.symm hk)]; exact h
theorem ClosB.step {listed : Array Bool} (h : ClosB l listed) (hs : listed.size = l.length) {i : Nat} (hi : i < l.length) (hm : i ∈ Region.ready .any l.toArray listed) : ClosB l (listed.setIfInBounds i true) := fun j o ho hj e he hb => by
 refine getD_set_up (by omega) ?_
 by_cases hji : j = i
 ·subst hji
  obtain ⟨_, o2, ho2, hx⟩ := mem_ready.1 hm
  have : o2 = o := by
   have e2 : l[j]? = some o2 := by simpa using ho2
   rw [ho] at e2
   exact (Option.some.inj e2).symm
  subst this
  exact hx e he hb
 ·rw [getD_set_ne false (Ne.symm hji)] at hj
  exact h j o ho hj e he hb
theorem ready_pushC (p1 : ∀ (i : Nat) (o : Oper), l[i]? = some o → o.guard = none ∧ ∀ e ∈ o.after, e.on < i) {listed : Array Bool} (hs : listed.size = l.length) {i : Nat} (hi : i < l.length) (hm : i ∈ Region.ready .any (l ++ [st]).toArray (listed.push false)) : i ∈ Region.ready .any l.toArray listed := by
 rw [mem_ready] at *
 obtain ⟨h0, o, ho, hall⟩ := hm
 rw [getD_push true (by omega)] at h0
 have ho' : l[i]? = some o := by
  rw [List.getElem?_toArray, List.getElem?_append_left hi] at ho
  exact ho
 refine ⟨h0, o, by simpa using ho', fun e he hb => ?_⟩
 have := hall e he hb
 rw [getD_push false (by have := (p1 i o ho').2 e he; omega)] at this
 exact this

theorem wpAny_lastC (h : lastC l st = true) : ∀ (fuel : Nat) (listed : Array Bool) (a : Act) (w : World), listed.size = l.length → ClosB l listed → wpAny P .any l.toArray (LastQ P st Q) fuel listed a w → wpAny P .any (l ++ [st]).toArray Q (fuel + 1) (listed.push false) a w := by
 obtain ⟨p1, p2, p3, p4⟩ := lastC_parts h
 intro fuel
 induction fuel with
 | zero =>
  intro listed a w hs hc hw
  have hall := all_listed p1 hs hw.1
  refine ⟨fun h0 => ?_, fun i hi => ?_⟩
  ·exfalso
   have hm : l.length ∈ Region.ready .any (l ++ [st]).toArray (listed.push false) := by
    rw [mem_ready]
    refine ⟨by simp [← hs], st, by simp, fun e he _ => ?_⟩
    rw [getD_push false (by have := p4 e he; omega)]
    exact hall _ (p4 e he)
   rw [h0] at hm
   cases hm
  ·by_cases hil : i < l.length
   ·have := ready_pushC p1 hs hil hi
    rw [hw.1] at this
    cases this
   ·have hin : i = l.length := by
     obtain ⟨_, o, ho, _⟩ := mem_ready.1 hi
     have := (Array.getElem?_eq_some_iff.1 ho).1
     simp at this
     omega
    subst hin
    have hq : st.wp P a w (Q .normal) Q := hw.2
    unfold wpOp
    have hst : (l ++ [st]).toArray[l.length]? = some st := by simp
    simp only [hst]
    rw [if_pos (by simp [Region.wanted, p2])]
    refine .inl (Oper.wp_mono (fun a' w' hq' => ?_) hq)
    refine ⟨List.filter_eq_nil_iff.2 fun j hj => ?_, hq'⟩
    have hj' : j < l.length + 1 := by simpa using hj
    have : ((listed.push false).setIfInBounds l.length true).getD j true = true := by
     by_cases hjl : j = l.length
     ·subst hjl; simp
     ·rw [getD_set_ne true (Ne.symm hjl), getD_push true (by omega)]
      have := hall j (by omega)
      have hlt : j < listed.size := by omega
      simp [hlt] at this ⊢
      exact this
    rw [this]
    simp
 | succ fuel ih =>
  intro listed a w hs hc hw
  refine ⟨fun h0 => ?_, fun i hi => ?_⟩
  ·exfalso
   have hr : Region.ready .any l.toArray listed = [] := by
    rw [List.eq_nil_iff_forall_not_mem]
    intro i hi
    have hil : i < l.length := by
     obtain ⟨_, o, ho, _⟩ := mem_ready.1 hi
     have := (Array.getElem?_eq_some_iff.1 ho).1
     simpa using this
    have hm : i ∈ Region.ready .any (l ++ [st]).toArray (listed.push false) := by
     rw [mem_ready] at *
     obtain ⟨h1, o, ho, hall⟩ := hi
     have ho' : l[i]? = some o := by simpa using ho
     refine ⟨by rw [getD_push true (by omega)]; exact h1, o, by rw [List.getElem?_toArray, List.getElem?_append_left hil]; exact ho', fun e he hb => ?_⟩
     rw [getD_push false (by have := (p1 i o ho').2 e he; omega)]
     exact hall e he hb
    rw [h0] at hm
    cases hm
   have hall := all_listed p1 hs hr
   have hm : l.length ∈ Region.ready .any (l ++ [st]).toArray (listed.push false) := by
    rw [mem_ready]
    refine ⟨by simp [← hs], st, by simp, fun e he _ => ?_⟩
    rw [getD_push false (by have := p4 e he; omega)]
    exact hall _ (p4 e he)
   rw [h0] at hm
   cases hm
  ·by_cases hil : i < l.length
   ·have hm := ready_pushC p1 hs hil hi
    have h1 := hw.2 i hm
    have ho : l.toArray[i]? = some l[i] := by simp [hil]
    have ho' : (l ++ [st]).toArray[i]? = some l[i] := by rw [List.getElem?_toArray, List.getElem?_append_left hil]; simp [hil]
    have h2 := wpOp_last ho ho' (p1 i l[i] (by simp [hil])).1 h1
    refine wpOp_mono (fun a' w' h3 => ?_) h2
    rw [push_set (by omega)]
    exact ih _ a' w' (by simpa using hs) (hc.step hs hil hm) h3
   ·have hin : i = l.length := by
     obtain ⟨_, o, ho, _⟩ := mem_ready.1 hi
     have := (Array.getElem?_eq_some_iff.1 ho).1
     simp at this
     omega
    subst hin
    have hall : ∀ j, j < l.length → listed.getD j false = true := by
     intro j hj
     obtain ⟨e, he, hb, hon⟩ := p3 j hj
     obtain ⟨_, o, ho, hx⟩ := mem_ready.1 hi
     have : o = st := by simpa using ho.symm
     subst this
     have := hx e he hb
     rw [getD_push false (by have := p4 e he; omega)] at this
     rcases hon with hon | ⟨o2, h2, e2, he2, hb2, hon⟩
     ·rw [hon] at this; exact this
     ·rw [← hon]; exact hc e.on o2 h2 this e2 he2 hb2
    have hr : Region.ready .any l.toArray listed = [] := by
     rw [List.eq_nil_iff_forall_not_mem]
     intro j hj
     obtain ⟨h1, o, ho, _⟩ := mem_ready.1 hj
     have hjl : j < l.length := by
      have := (Array.getElem?_eq_some_iff.1 ho).1
      simpa using this
     have := hall j hjl
     have hlt : j < listed.size := by omega
     simp [hlt] at this h1
     rw [h1] at this
     cases this
    have hq : st.wp P a w (Q .normal) Q := hw.1 hr
    unfold wpOp
    have hst : (l ++ [st]).toArray[l.length]? = some st := by simp
    simp only [hst]
    rw [if_pos (by simp [Region.wanted, p2])]
    refine .inl (Oper.wp_mono (fun a' w' hq' => ?_) hq)
    refine wpAny_done (List.filter_eq_nil_iff.2 fun j hj => ?_) hq' _
    have hj' : j < l.length + 1 := by simpa using hj
    have : ((listed.push false).setIfInBounds l.length true).getD j true = true := by
     by_cases hjl : j = l.length
     ·subst hjl; simp [hs]
     ·rw [getD_set_ne true (Ne.symm hjl), getD_push true (by omega)]
      have := hall j (by omega)
      have hlt : j < listed.size := by omega
      simp [hlt] at this ⊢
      exact this
    rw [this]
    simp

theorem wp_region_lastC {id : Nat} {ops : Array Oper} {a : Act} {w : World} (S : World → Prop) (l : List Oper) (st : Oper) (hops : ops = (l ++ [st]).toArray) (hm : P.follows .mixedOrders = true) (h : lastC l st = true)
  (H : wpAnyH P .any l.toArray (LastQ P st Q) S l.length (Array.replicate l.length false) a w.drew) : (Code.region id ops true).wp P Q a w := by
 subst hops
 refine wp_region_any hm ?_
 have h1 := wpAny_lastC (Q := Q) h l.length (Array.replicate l.length false) a w.drew (by simp) (ClosB.start l) (wpAny_of_held _ _ _ _ H)
 have e : (Array.replicate l.length false).push false = Array.replicate (l ++ [st]).toArray.size false := by
  apply Array.ext'
  simp [← List.replicate_succ']
 rw [e] at h1
 have e2 : (l ++ [st]).toArray.size = l.length + 1 := by simp
 rw [e2] at h1 ⊢
 exact h1
end
section
open Go.RowKit

def roomK (k : Nat) (h m : Int) : Nat := if m ≤ h then 0 else (min (k : Int) (m - h)).toNat
def roomV (a : Option Addr) (k cap : Nat) (h m : Int) : Value := .slice (if m ≤ h then none else a) (roomK k h m) (if m ≤ h then 0 else cap)
theorem withRoomR_any (a : Option Addr) (k cap : Nat) (h m : Int) (hk : k ≤ cap) (h0 : 0 ≤ h) (hh : h ≤ 9223372036854775807) (hm : m ≤ 9223372036854775807) (w : World) :
  Calls Tryz.prog 85 #[.slice a k cap, .int .i64 h, .int .i64 m] w fun e w' => e = .returned (roomV a k cap h m) ∧ w' = w := by

 by_cases hl : m ≤ h
 ·have e1 : roomV a k cap h m = .slice none 0 0 := by unfold roomV roomK; rw [if_pos hl, if_pos hl, if_pos hl]
  rw [e1]
  go_enter Tryz.func85, Tryz.ntmps85
  go_wp2
  go_ret
  exact ⟨rfl, rfl⟩
 ·have e1 : roomV a k cap h m = .slice a (min (k : Int) (m - h)).toNat cap := by unfold roomV roomK; rw [if_neg hl, if_neg hl, if_neg hl]
  have w1 : wrap64 (m - h) = m - h := Go.IntWalk.wrap64_in _ ⟨by omega, by omega⟩
  have k1 : 0 ≤ min (k : Int) (m - h) := by omega
  have k2 : min (k : Int) (m - h) ≤ (cap : Int) := by omega
  obtain ⟨q, hq1⟩ := Int.eq_ofNat_of_zero_le k1
  rw [e1, hq1]
  have hq2 : q ≤ cap := by omega
  have Q := hq hq1
  have W1 := hq w1
  clear e1 k1 k2 hq1 w1
  go_enter Tryz.func85, Tryz.ntmps85
  have q1 := Q.out
  have w1 := W1.out
  go_wp2
  go_ret
  exact ⟨rfl, rfl⟩
end
section
open Go.RowKit

theorem send_any (n : Nat) (sz : Int) (nv rv cv av lv : Value) (D : Wd) (F : Nat → Prop) (X l1 l2 : Nat) (w0 w : World) (B0 : Below w0.heap.size w0 w) (h : WrS (nodU n) (rpcU n) w F ⟨sz, nv, rv, cv, av, lv⟩ D) (hF : ∀ g, F g → w0.heap.size ≤ g ∧ g < w.heap.size ∧ g ≠ X) (hX : w0.heap.size ≤ X ∧ X < w.heap.size) (hm : MBox 37 w X #[.int .i64 sz, nv, rv, cv, av, lv])
  (vl : Value) (es : List RpcE) (hl : LsI rpcC (rpcI n) noRpc 87 15 w0 l1 l2 vl es) (hes : ∀ e ∈ es, e.2.small n) (hn : es.length ≤ 1048576) (hr : D.rs.length ≤ 1048576) :
  Calls Tryz.prog 35 #[.pointer (some ⟨X, 0, none⟩), vl] w fun e w' => e = .returned (.tuple #[]) ∧ ∃ (F' : Nat → Prop) (v' : Value) (gs : List RpcE), LsLk rpcLk (es.take (30 - D.rs.length)) gs ∧ WrS (nodU n) (rpcU n) w' F' ⟨sz, nv, v', cv, av, lv⟩ ⟨D.ns, D.rs ++ gs, D.cs, D.ds, D.ls⟩ ∧ (∀ g, F' g → w0.heap.size ≤ g ∧ g < w'.heap.size ∧ g ≠ X) ∧ MBox 37 w' X #[.int .i64 sz, nv, v', cv, av, lv] ∧ Below w0.heap.size w0 w' := by
 obtain ⟨K, hK⟩ : ∃ K : Nat, K = roomK es.length D.rs.length 30 := ⟨_, rfl⟩
 have hK2 : es.take (30 - D.rs.length) = es.take K := by
  rw [hK]
  unfold roomK
  split
  ·rw [show 30 - D.rs.length = 0 by omega]
  ·rcases Nat.le_total es.length (30 - D.rs.length) with e | e
   ·rw [List.take_of_length_le e, List.take_of_length_le (by omega)]
   ·rw [show (min (es.length : Int) (30 - (D.rs.length : Int))).toNat = 30 - D.rs.length by omega]
 have hK3 : K ≤ es.length := by rw [hK]; unfold roomK; split <;> omega
 have hK4 : 0 < K → ¬ (30 : Int) ≤ (D.rs.length : Int) := fun a b => by rw [hK] at a; unfold roomK at a; rw [if_pos b] at a; omega
 rw [hK2]
 obtain ⟨ar, qr, hz⟩ := OwnE.slice h.net.1
 simp only at hz
 subst hz
 have HRA : Hid (∀ j (hj : j < es.length), ∃ F, RpcA n w0 F es[j].1 es[j].2) := by
  obtain ⟨_, _, _, _, _, _, h3, _⟩ := hl
  exact fun j hj => ⟨_, by have := (h3 j hj).2.2.2.1; simp only [List.getD, List.getElem?_eq_getElem hj, Option.getD_some] at this; exact this⟩
 obtain ⟨a1, b1, off1, p1, rfl, hc1, hm1, ha1, rg1⟩ := (hl.at (At := rpcAt n) (fun _ _ _ _ h => RpcA.at h)).parts (K := 15) (fun _ => rfl)
 have HA1 := hq ha1
 have RG1 := hq rg1
 have CR : Hid (∀ j (hj : j < es.length) (u : World), Below w0.heap.size w0 u → Calls Tryz.prog 84 #[es[j].1.val] u fun e w' => ∃ M : RpcV, e = .returned M.val ∧ es[j].1.like M ∧ RpcDs n w' u.heap.size M es[j].2 ∧ Below u.heap.size u w') := fun j hj u hu => by
  obtain ⟨F, hF⟩ := HRA.out j hj
  have hF := hF.below hu
  obtain ⟨F1, s1⟩ := hF.srcs
  exact copyOfRpc_any n _ _ F1 u hF.at (hes _ (List.getElem_mem hj)) s1
 have ON2 : Hid (∀ j (hj : j < es.length), (rpcC es[j]).toArray.all (·.oneCell') = true) := fun j hj => by
  obtain ⟨F, hF⟩ := HRA.out j hj
  exact hF.at.ones
 have WRM := hq (withRoomR_any a1 es.length p1 D.rs.length 30 hc1 (by omega) (by omega) (by omega) w)
 have HRN := hq hr
 have HX := hq hX
 have ST : Hid (WrS (nodU n) (rpcU n) w F ⟨sz, nv, .slice ar D.rs.length qr, cv, av, lv⟩ D ∧ (∀ g, F g → w0.heap.size ≤ g ∧ g < w.heap.size ∧ g ≠ X) ∧ MBox 37 w X #[.int .i64 sz, nv, (.slice ar D.rs.length qr), cv, av, lv] ∧ Below w0.heap.size w0 w) := ⟨h, hF, hm, B0⟩
 have cX := hm.cells
 have hrn : D.rs.length ≤ 1048576 := hr
 have hen : es.length ≤ 1048576 := hn
 have KK := hq hK
 have K3 := hq hK3
 have K4 := hq hK4
 clear hl HRA ha1 rg1 hK2 h hF hm B0 hX hes hK hK3 hK4 hc1 hm1
 go_enter Tryz.func35, Tryz.ntmps35
 go_wp2_with fail
 refine WRM.out.mono ?_
 rintro e w' ⟨rfl, hww⟩
 subst hww
 unfold roomV
 rw [← KK.out]
 clear WRM KK cX
 obtain ⟨i0, hi0, hz0, hz1, hz2⟩ := info_parts (show (Tryz.prog.info? 87).map (fun i => (i.zero, i.size, i.bytes)) = some (some (.agg #[.int .i64 0, .int .i64 0, .int .i64 0, .int .i64 0, .int .i64 0, .int .i64 0, .int .i64 0, .bool false, .slice none 0 0, .bool false, .slice none 0 0, .slice none 0 0, .slice none 0 0, .slice none 0 0, .slice none 0 0]), 15, 216) by kernel_rfl)
 have BS := hq (fun (ks : List Value) (hl : ks.length = 15) => builtSlice_one (P := Tryz.prog) 87 i0 _ 15 hi0 hz0 hz1 (by decide) (by decide) ks hl)
 have k20 : K ≤ 1048576 := by have := K3.out; omega
 generalize hcp : (if (30 : Int) ≤ (D.rs.length : Int) then 0 else p1) = cpp
 have haa : Hid (0 < K → (if (30 : Int) ≤ (D.rs.length : Int) then none else a1) = a1) := fun h => if_neg (by have := K4.out h; omega)
 generalize (if (30 : Int) ≤ (D.rs.length : Int) then none else a1) = aa at *
 clear hcp
 go_wp2_with fail
 go_loopw [14] (fun i wr => ∃ (j : Nat) (v : Value) (gs : List RpcE) (F : Nat → Prop), j ≤ K ∧ i = .int .i64 j ∧ Hid (LsLk rpcLk (es.take j) gs) ∧ Hid (WrS (nodU n) (rpcU n) wr F ⟨sz, nv, v, cv, av, lv⟩ ⟨D.ns, D.rs ++ gs, D.cs, D.ds, D.ls⟩) ∧ Hid (∀ g, F g → w0.heap.size ≤ g ∧ g < wr.heap.size ∧ g ≠ X) ∧ Hid (MBox 37 wr X #[.int .i64 sz, nv, v, cv, av, lv]) ∧ Hid (Below w0.heap.size w0 wr ∧ X < wr.heap.size))
  (fun i _ => K - (intOf i).toNat)
 case atStart => exact ⟨0, _, [], F, Nat.zero_le _, rfl, ⟨by simp, fun i h => by simp at h⟩, by rw [List.append_nil]; exact ST.out.1, ST.out.2.1, ST.out.2.2.1, ⟨ST.out.2.2.2, HX.out.2⟩⟩
 case round =>
  clear ST
  obtain ⟨j, v, gs, F, hj, rfl, LR, G, FX, BX, BW⟩ := hrel
  by_cases hlt : j < K
  ·have hi2 : (j : Int) < (K : Int) := by omega
   have hlt2 : j < es.length := by have := K3.out; omega
   have hal := haa.out (by omega)
   subst hal
   have hal := HA1.out (by omega)
   subst hal
   obtain ⟨ks, hks⟩ : ∃ ks : List Value, ks = rpcC es[j] := ⟨_, rfl⟩
   have hkl : ks.length = 15 := by rw [hks]; rfl
   have RU : Hid (wr.rangeAt b1 (off1 + j * 15) ks) := by rw [hks]; exact RG1.out wr BW.out.1 j hlt2
   have VE : es[j].1.val = .agg ks.toArray := by rw [hks]; rfl
   have ONE : Hid (ks.toArray.all (·.oneCell') = true) := by rw [hks]; exact ON2.out j hlt2
   have CJ : Hid (∀ u : World, Below w0.heap.size w0 u → Calls Tryz.prog 84 #[.agg ks.toArray] u fun e w' => ∃ M : RpcV, e = .returned M.val ∧ es[j].1.like M ∧ RpcDs n w' u.heap.size M es[j].2 ∧ Below u.heap.size u w') := by have h := CR.out j hlt2; rw [VE] at h; exact h
   clear VE hks
   have A1 : Hid (Below wr.heap.size wr (wr.alloc (.cells #[.int .i64 0, .int .i64 0, .int .i64 0, .int .i64 0, .int .i64 0, .int .i64 0, .int .i64 0, .bool false, .slice none 0 0, .bool false, .slice none 0 0, .slice none 0 0, .slice none 0 0, .slice none 0 0, .slice none 0 0] 87))) := bel_nw _ _
   have AY : Hid (MBox 87 (wr.alloc (.cells #[.int .i64 0, .int .i64 0, .int .i64 0, .int .i64 0, .int .i64 0, .int .i64 0, .int .i64 0, .bool false, .slice none 0 0, .bool false, .slice none 0 0, .slice none 0 0, .slice none 0 0, .slice none 0 0, .slice none 0 0] 87)) wr.heap.size #[.int .i64 0, .int .i64 0, .int .i64 0, .int .i64 0, .int .i64 0, .int .i64 0, .int .i64 0, .bool false, .slice none 0 0, .bool false, .slice none 0 0, .slice none 0 0, .slice none 0 0, .slice none 0 0, .slice none 0 0]) := MBox.start _ wr _
   have AZ : Hid (wr.heap.size + 1 = (wr.alloc (.cells #[.int .i64 0, .int .i64 0, .int .i64 0, .int .i64 0, .int .i64 0, .int .i64 0, .int .i64 0, .bool false, .slice none 0 0, .bool false, .slice none 0 0, .slice none 0 0, .slice none 0 0, .slice none 0 0, .slice none 0 0] 87)).heap.size) := by show _ = _; simp
   have TH : Hid ((wr.alloc (.cells #[.int .i64 0, .int .i64 0, .int .i64 0, .int .i64 0, .int .i64 0, .int .i64 0, .int .i64 0, .bool false, .slice none 0 0, .bool false, .slice none 0 0, .slice none 0 0, .slice none 0 0, .slice none 0 0, .slice none 0 0] 87)).there wr.heap.size 0 ks.toArray.size) := there_of AY.out (show 15 = ks.toArray.size by rw [List.size_toArray, hkl])
   have HM2 : Hid ((Tryz.prog.info? 87).map (·.size) = some ks.toArray.size) := by show _ = _; rw [List.size_toArray, hkl]; exact (show (Tryz.prog.info? 87).map (·.size) = some 15 by kernel_rfl)
   have HM1 : Hid ((Tryz.prog.info? 87).map (·.size) = some ks.length) := by show _ = _; rw [hkl]; exact (show (Tryz.prog.info? 87).map (·.size) = some 15 by kernel_rfl)
   have GC : Chg (fun g => g = wr.heap.size) (wr.alloc (.cells #[.int .i64 0, .int .i64 0, .int .i64 0, .int .i64 0, .int .i64 0, .int .i64 0, .int .i64 0, .bool false, .slice none 0 0, .bool false, .slice none 0 0, .slice none 0 0, .slice none 0 0, .slice none 0 0, .slice none 0 0] 87)) ((wr.alloc (.cells #[.int .i64 0, .int .i64 0, .int .i64 0, .int .i64 0, .int .i64 0, .int .i64 0, .int .i64 0, .bool false, .slice none 0 0, .bool false, .slice none 0 0, .slice none 0 0, .slice none 0 0, .slice none 0 0, .slice none 0 0] 87)).setCells wr.heap.size 0 ks) := Chg.setCells (F := fun g => g = wr.heap.size) (g := wr.heap.size) (fun _ => rfl) ks 0 _ (Chg.refl _ _)
   have XF : Hid (((wr.alloc (.cells #[.int .i64 0, .int .i64 0, .int .i64 0, .int .i64 0, .int .i64 0, .int .i64 0, .int .i64 0, .bool false, .slice none 0 0, .bool false, .slice none 0 0, .slice none 0 0, .slice none 0 0, .slice none 0 0, .slice none 0 0] 87)).setCells wr.heap.size 0 ks).heap[wr.heap.size]? = some (.cells ks.toArray 87 (0, 0))) := setAll_at AY.out ks (by rw [hkl]; rfl)
   have B3 : Hid (Below wr.heap.size wr ((wr.alloc (.cells #[.int .i64 0, .int .i64 0, .int .i64 0, .int .i64 0, .int .i64 0, .int .i64 0, .int .i64 0, .bool false, .slice none 0 0, .bool false, .slice none 0 0, .slice none 0 0, .slice none 0 0, .slice none 0 0, .slice none 0 0] 87)).setCells wr.heap.size 0 ks)) := A1.out.trans (GC.below (fun g _ hg => by omega) A1.out.size)
   have SE : Hid (wr.heap.size + 1 ≤ ((wr.alloc (.cells #[.int .i64 0, .int .i64 0, .int .i64 0, .int .i64 0, .int .i64 0, .int .i64 0, .int .i64 0, .bool false, .slice none 0 0, .bool false, .slice none 0 0, .slice none 0 0, .slice none 0 0, .slice none 0 0, .slice none 0 0] 87)).setCells wr.heap.size 0 ks).heap.size) := by have := GC.size; have := AZ.out; show _ ≤ _; omega
   clear GC AY AZ A1
   go_upto_region 3 with (first | (refine wpList_load_mid rfl 87 _ rfl b1 (off1 + j * 15) rfl ks _ RU.out Tryz.underlying87 rfl HM1.out ?_) | (refine wpList_store_mid rfl 87 _ _ rfl wr.heap.size 0 ks.toArray rfl rfl TH.out HM2.out ONE.out ?_))
   generalize ((wr.alloc (.cells #[.int .i64 0, .int .i64 0, .int .i64 0, .int .i64 0, .int .i64 0, .int .i64 0, .int .i64 0, .bool false, .slice none 0 0, .bool false, .slice none 0 0, .slice none 0 0, .slice none 0 0, .slice none 0 0, .slice none 0 0] 87)).setCells wr.heap.size 0 ks) = U3 at *
   clear TH RU HM2 ONE
   obtain ⟨a9, q9, hv9⟩ := OwnE.slice G.out.net.1
   simp only at hv9
   generalize hLN : (D.rs ++ gs).length = ln at hv9
   subst hv9
   have LNH := hq hLN
   clear hLN
   have BX3 := hq (BX.out.step B3.out)
   have KE : Hid (∀ u, Below U3.heap.size U3 u → (fun u : World => u.rangeAt wr.heap.size 0 ks ∧ u.cell? ⟨X, 2, none⟩ = some (.slice a9 ln q9)) u) := fun u hu => ⟨by have := range_of (step_at XF.out hu); rw [List.toList_toArray] at this; exact this, ((BX3.out.step hu).cells 2).trans rfl⟩
   have RF : Hid (Below U3.heap.size U3 U3.drew) := (Below.refl _ _).drew
   refine wp_region_lastC (fun u : World => u.rangeAt wr.heap.size 0 ks ∧ u.cell? ⟨X, 2, none⟩ = some (.slice a9 ln q9)) [_, _, _, _, _, _, _, _, _, _, _] _ rfl (by kernel_rfl) (by kernel_rfl) ?_
   refine tk 0 (oi := ⟨_, _, _, _, _, _⟩) (v := ?_) rfl (by kernel_rfl) (fun _ _ _ h => h) (Or.inl ⟨by rfl, ?_⟩) (KE.out _ RF.out) ?_
   rotate_left
   ·(intro u hu; obtain ⟨s0, s1⟩ := hu; go_simp)
    try with_reducible rfl
   try simp only [Act.put, sA, sB, sC]
   refine tk 1 (oi := ⟨_, _, _, _, _, _⟩) (v := ?_) rfl (by kernel_rfl) (fun _ _ _ h => h) (Or.inl ⟨by rfl, ?_⟩) (KE.out _ RF.out) ?_
   rotate_left
   ·(intro u hu; obtain ⟨s0, s1⟩ := hu; go_simp)
    try with_reducible rfl
   try simp only [Act.put, sA, sB, sC]
   refine tk 2 (oi := ⟨_, _, _, _, _, _⟩) (v := ?_) rfl (by kernel_rfl) (fun _ _ _ h => h) (Or.inl ⟨by rfl, ?_⟩) (KE.out _ RF.out) ?_
   rotate_left
   ·(intro u hu; obtain ⟨s0, s1⟩ := hu; go_simp)
    try with_reducible rfl
   try simp only [Act.put, sA, sB, sC]
   refine tk 3 (oi := ⟨_, _, _, _, _, _⟩) (v := ?_) rfl (by kernel_rfl) (fun _ _ _ h => h) (Or.inl ⟨by rfl, ?_⟩) (KE.out _ RF.out) ?_
   rotate_left
   ·(intro u hu; obtain ⟨s0, s1⟩ := hu; go_simp)
    try with_reducible rfl
   try simp only [Act.put, sA, sB, sC]
   refine tk 4 (oi := ⟨_, _, _, _, _, _⟩) (v := ?_) rfl (by kernel_rfl) (fun _ _ _ h => h) (Or.inl ⟨by rfl, ?_⟩) (KE.out _ RF.out) ?_
   rotate_left
   ·(intro u hu; obtain ⟨s0, s1⟩ := hu; go_simp)
    try with_reducible rfl
   try simp only [Act.put, sA, sB, sC]
   refine tk 5 (oi := ⟨_, _, _, _, _, _⟩) (v := .agg (ks).toArray) rfl (by kernel_rfl) (fun _ _ _ h => h) (yieldsIf_load_mid rfl 87 _ rfl wr.heap.size 0 rfl (ks) _ (fun u hu => hu.1) Tryz.underlying87 rfl HM1.out) (KE.out _ RF.out) ?_
   try simp only [Act.put, sA, sB, sC]
   have RU3 := hq (Below.and BW.out.1 B3.out)
   have C := hq (CJ.out U3.drew (Below.and RU3.out RF.out))
   clear CJ
   refine wpAnyH_ready (rs := [6]) (by kernel_rfl) (by simp) ?_
   refine AllReadyH.cons (o := ⟨_, _, _, _, _, _⟩) rfl (fun KQ hKK => ?_) AllReadyH.nil
   refine (if_pos (show Region.wanted _ _ = true by kernel_rfl)).mpr ?_
   refine call_by 84 [.tmp 23] #[87] rfl run_cpR _ rfl C.out ?_
   rintro e w3 ⟨M, rfl, hl, hn, hb⟩
   clear C
   obtain ⟨ms, hms⟩ : ∃ ms : List Value, ms = rpcC (M, es[j].2) := ⟨_, rfl⟩
   have VM : M.val = .agg ms.toArray := by rw [hms]; rfl
   have hml : ms.length = 15 := by rw [hms]; rfl
   have ONM : Hid (∀ y ∈ ms, y.oneCell' = true) := fun y hy => by have := Array.all_eq_true_iff_forall_mem.1 (show (rpcC (M, es[j].2)).toArray.all (·.oneCell') = true from (RpcDs.own hn).at.ones) y (by rw [hms] at hy; simpa using hy); exact this
   have KM : Hid (ms = rpcC (M, es[j].2)) := hms
   clear hms
   refine ⟨M.val, rfl, ?_⟩
   rw [VM]
   clear VM
   have b3 := hq (Below.and RF.out hb)
   have NM := hq (RpcDs.own hn)
   have HL := hq hl
   have LO : Hid (U3.drew.heap.size = U3.heap.size) := rfl
   clear hb hn hl
   refine hKK.out _ _ (KE.out _ b3.out) (fun hH2 => ?_)
   clear hKK KQ hH2
   try simp only [Act.put, sA, sB, sC]
   refine wpAnyH_ready (rs := [7]) (by kernel_rfl) (by simp) ?_
   refine AllReadyH.cons (o := ⟨_, _, _, _, _, _⟩) rfl (fun KQ hKK => ?_) AllReadyH.nil
   refine (if_pos (show Region.wanted _ _ = true by kernel_rfl)).mpr ?_
   refine wp_built 32 87 1 _ rfl Tryz.underlying32 ms.toArray (by rw [Array.toList_map]; exact BS.out ms hml) ?_
   have b4 : Below w3.heap.size w3 (w3.alloc (.cells ms.toArray 87)) := bel_nw _ _
   have HR : Hid (Row (w3.alloc (.cells ms.toArray 87)) (.slice (some ⟨w3.heap.size, 0, none⟩) 1 1) 1 ms) := Row.laid w3 ms 87 _ rfl
   have B4 := hq (Below.and b3.out b4)
   have NM4 := hq (NM.out.below b4)
   have W34 : Hid (w3.heap.size ≤ (w3.alloc (.cells ms.toArray 87)).heap.size) := b4.size
   clear b4 NM
   refine hKK.out _ _ (KE.out _ B4.out) (fun hH2 => ?_)
   clear hKK KQ hH2
   generalize (w3.alloc (.cells ms.toArray 87)) = W4 at *
   try simp only [Act.put, sA, sB, sC]
   have B5 := hq (Below.and B3.out B4.out)
   have OE := hq (G.out.net.1.below B5.out)
   have LM : Hid (gs.length = j) := by have := LR.out.1; rw [List.length_take] at this; show _ = _; omega
   have LT : Hid ((D.rs ++ gs).length = D.rs.length + j) := by have := LM.out; show _ = _; rw [List.length_append]; omega
   have RM : Hid ((D.rs ++ gs).length + 1 ≤ maxLen ∧ ((D.rs ++ gs).length + 1) * 216 ≤ 140737488355328 ∧ 0 ≤ W4.heap.size) := by have := LT.out; have := HRN.out; unfold maxLen; exact ⟨by omega, by omega, by omega⟩
   refine wpAnyH_ready (rs := [8]) (by kernel_rfl) (by simp) ?_
   refine AllReadyH.cons (o := ⟨_, _, _, _, _, _⟩) rfl (fun KQ hKK => ?_) AllReadyH.nil
   refine (if_pos (show Region.wanted _ _ = true by kernel_rfl)).mpr ?_
   refine wp_appE W4 _ _ 32 rfl 0 87 i0 _ 15 216 Tryz.underlying32 hi0 hz0 hz1 hz2 rfl (by decide) (.slice a9 ln q9) (D.rs ++ gs).length ((D.rs ++ gs).map rpcC).flatten rfl OE.out (.slice (some ⟨w3.heap.size, 0, none⟩) 1 1) 1 ms rfl HR.out (by rw [hml]) ONM.out RM.out.1 RM.out.2.1 RM.out.2.2 ?_
   intro v' x AP
   have LR6 := hq (LsLk.snoc hlt2 (y := (M, es[j].2)) LR.out ⟨HL.out, rfl⟩)
   have G5 := hq (G.out.snoc (H := fun g => U3.drew.heap.size ≤ g ∧ g < w3.heap.size) (f := (M, es[j].2)) (nodU_k n) (rpcU_k n) (fun g hg => (FX.out g hg).2.1) B5.out NM4.out (fun g hg => by have := LO.out; have := SE.out; have := W34.out; omega) (by rw [← KM.out]; exact AP))
   obtain ⟨ao, cp, bp, wq⟩ := AP
   obtain ⟨a8, q8, hv8⟩ := OwnE.slice ao
   generalize hl8 : (D.rs ++ gs).length + 1 = ln8 at hv8
   subst hv8
   have PV : Hid (∀ g, wrB (.slice a9 ln q9) g → F g) := G.out.net.2
   have FX2 : Hid (∀ g, (F g ∨ wr.heap.size ≤ g ∧ g < x.heap.size) → w0.heap.size ≤ g ∧ g < x.heap.size ∧ g ≠ X) := fun g hg => by
    have s1 := B5.out.size
    have s2 := cp.size
    have s3 := BW.out.2
    have s4 := BW.out.1.size
    rcases hg with hg | hg
    ·have := FX.out g hg; exact ⟨this.1, by omega, this.2.2⟩
    ·exact ⟨by omega, hg.2, by omega⟩
   have bx : MBox 37 x X #[.int .i64 sz, nv, (.slice a9 ln q9), cv, av, lv] := row_chg (BX3.out.step B4.out) cp (fun hg => (FX.out _ (PV.out _ hg)).2.2 rfl)
   have BWx : Hid (Below w0.heap.size w0 x ∧ X < x.heap.size) := ⟨(Below.and BW.out.1 B5.out).trans (cp.below (fun g g1 hg => by have := (FX.out _ (PV.out _ hg)).1; omega) (Nat.le_trans BW.out.1.size B5.out.size)), by have := B5.out.size; have := cp.size; have := BW.out.2; omega⟩
   have S7 : Hid (x.rangeAt wr.heap.size 0 ks) := by have := range_of (row_chg (step_at XF.out B4.out) cp (fun hg => by have := (FX.out _ (PV.out _ hg)).2.1; omega)); rw [List.toList_toArray] at this; exact this
   have S8 : Hid (x.cell? ⟨X, 2, none⟩ = some (.slice a9 ln q9)) := (bx.cells 2).trans rfl
   have ch : Chg (fun g => g = X) x (x.setCell ⟨X, 2, none⟩ (.slice a8 ln8 q8)) := (Chg.refl (fun g => g = X) x).setAt X 2 rfl _
   have FIN : Hid (WrS (nodU n) (rpcU n) (x.setCell ⟨X, 2, none⟩ (.slice a8 ln8 q8)) (fun g => F g ∨ wr.heap.size ≤ g ∧ g < x.heap.size) ⟨sz, nv, .slice a8 ln8 q8, cv, av, lv⟩ ⟨D.ns, D.rs ++ (gs ++ [(M, es[j].2)]), D.cs, D.ds, D.ls⟩ ∧ MBox 37 (x.setCell ⟨X, 2, none⟩ (.slice a8 ln8 q8)) X #[.int .i64 sz, nv, (.slice a8 ln8 q8), cv, av, lv] ∧ (∀ g, (F g ∨ wr.heap.size ≤ g ∧ g < x.heap.size) → w0.heap.size ≤ g ∧ g < (x.setCell ⟨X, 2, none⟩ (.slice a8 ln8 q8)).heap.size ∧ g ≠ X) ∧ Below w0.heap.size w0 (x.setCell ⟨X, 2, none⟩ (.slice a8 ln8 q8)) ∧ X < (x.setCell ⟨X, 2, none⟩ (.slice a8 ln8 q8)).heap.size) := by
    have e := G5.out.chg (nodU_k n) (rpcU_k n) ch (fun g hg e => (FX2.out g hg).2.2 e)
    simp only [List.append_assoc] at e
    refine ⟨e, heap_setCell_same x X 2 _ _ _ bx, fun g hg => ?_, BWx.out.1.trans (ch.below (fun g _ hg => by have := HX.out.1; omega) BWx.out.1.size), ?_⟩
    ·have := FX2.out g hg; have := ch.size; exact ⟨by omega, by omega, by omega⟩
    ·have := BWx.out.2; have := ch.size; omega
   have bx := hq bx
   clear ao cp bp wq ch G5 PV OE RM LM LT HL KM NM4 W34 LO HR ONM B4 b3 KE RF BX3 XF B3 SE G LR HM1 RU3 FX FX2 BWx LNH hl8 BX BW B5
   refine hKK.out _ _ ⟨S7.out, S8.out⟩ (fun hH2 => ?_)
   clear hKK KQ hH2
   try simp only [Act.put, sA, sB, sC]
   refine tk 9 (oi := ⟨_, _, _, _, _, _⟩) (v := ?_) rfl (by kernel_rfl) (fun _ _ _ h => h) (Or.inl ⟨by rfl, ?_⟩) ⟨S7.out, S8.out⟩ ?_
   rotate_left
   ·(intro u hu; obtain ⟨s0, s1⟩ := hu; go_simp)
    try with_reducible rfl
   try simp only [Act.put, sA, sB, sC]
   refine tk 10 (oi := ⟨_, _, _, _, _, _⟩) (v := ?_) rfl (by kernel_rfl) (fun _ _ _ h => h) (Or.inl ⟨by rfl, ?_⟩) ⟨S7.out, S8.out⟩ ?_
   rotate_left
   ·(intro u hu; obtain ⟨s0, s1⟩ := hu; go_simp)
    try with_reducible rfl
   try simp only [Act.put, sA, sB, sC]
   clear S7 S8
   refine wpAnyH_done (by kernel_rfl) ?_ _
   show Oper.wp _ _ _ _ _ _
   have c5 := bx.out.cells
   have f5 : ∀ q, x.frozen? ⟨X, q, none⟩ = false := fun q => frozen_of_cells bx.out
   go_wp2_with fail
   go_roundw
   case rel => exact ⟨j + 1, _, _, _, by omega, by go_num, LR6.out, FIN.out.1, FIN.out.2.2.1, FIN.out.2.1, FIN.out.2.2.2⟩
   case measure => simp [intOf]; omega
  ·have hi2 : ¬ (j : Int) < (K : Int) := by omega
   have hjn : j = K := by omega
   subst hjn
   clear BS hi0 hz0 hz1 hz2 ON2 CR HA1 RG1 K4 haa
   go_wp2
   exact bodyPost_end (v := .tuple #[]) (by simp [results, Tryz.results35, go_sem]) rfl ⟨rfl, F, v, gs, LR.out, G.out, FX.out, BX.out, BW.out.1⟩
end
end Go.Proofs.YtkcaelfkcepdkaaGreat
