/-
  Lists of structs: copied out of the law's own kind.
-/
import Derived.Test.YthfmifdpldmbaaaOfFirst9
import Derived.Test.YthfmifdpldmbaaaOfFirst10
import Derived.Test.YthfmifdpldmbaaaOfFirst5
namespace Go.Proofs.Ythfmifdpldmbaaa
set_option maxRecDepth 100000
set_option maxHeartbeats 8000000
section
open Go.RowKit

theorem toNodeS_own (n : Nat) (v : Value) (es : List NodE) (w : World) (h : LsAt nodC (nodAt n) w v es) (hs : ∀ e ∈ es, e.2.small n) (hn : es.length ≤ 1048576) :
  Calls Try.prog 14 #[v] w fun e w' => ∃ (v' : Value) (fs : List NodE), e = .returned v' ∧ LsLk nodLk es fs ∧ w'.ownsRow w.heap.size 94 23 v' fs.length (fs.map nodC).flatten ∧ (∀ f ∈ fs, nodOwn n w.heap.size w' f) ∧ Below w.heap.size w w' := by
 obtain ⟨a, b, off, cap, rfl, hcap, hmax, ha, rg⟩ := h.parts (K := 23) (fun _ => rfl)
 obtain ⟨i0, hi, hz0, hz1, hz2⟩ := info_parts (show (Try.prog.info? 94).map (fun i => (i.zero, i.size, i.bytes)) = some (some (.agg nodZ.toArray), 23, 408) by kernel_rfl)
 unfold maxLen at hmax
 have TO := hq (fun u i (hi : i < es.length) (hu : Below w.heap.size w u) => toNode_own n es[i].1 es[i].2 u ((h.2 _ (List.getElem_mem hi)).below hu) (hs _ (List.getElem_mem hi)))
 have RG := hq rg
 have HA := hq ha
 clear h rg ha hs
 go_enter Try.func14, Try.ntmps14
 go_wp2_with (at_make; refine wpList_make_full _ rfl _ _ 31 rfl w.heap.size 94 i0 _ 23 Try.underlying31 hi hz0 hz1 .i64 .i64 _ _ es.length rfl rfl rfl rfl ?c1 ?c2 ?c3 ?_)
 case c1 => rw [hz2]; omega
 case c2 => unfold maxLen; omega
 case c3 => exact Nat.le_refl _
 intro w0 hown0 hgrow0
 have B0 := hq ((Below.refl w.heap.size w).grown hgrow0 (Nat.le_refl _) (fun k hk => by cases hk))
 have O0 : Hid (w0.ownsRow w.heap.size 94 23 (.slice (some ⟨w.heap.size, 0, none⟩) es.length es.length) es.length (List.replicate es.length nodZ).flatten) := by
  show World.ownsRow _ _ _ _ _ _ _
  rw [← made_flat nodZ 23 rfl (by decide) es.length]
  exact hown0
 have H0 : Hid (w.heap.size < w0.heap.size) := by
  obtain ⟨_, h2⟩ := O0.out
  rcases h2 with ⟨h2, _⟩ | ⟨g, _, cur, hv, _, hg, _⟩
  ·cases h2
  ·simp only [Value.slice.injEq, Option.some.injEq, Addr.mk.injEq, true_and, and_true] at hv
   rw [hv.1]
   exact (Array.getElem?_eq_some_iff.1 hg).1
 clear hgrow0 hown0 hi hz0 hz1 hz2
 go_wp2
 go_loopw [4] (fun i wr => ∃ (k : Nat) (fs : List NodE), k ≤ es.length ∧ i = .int .i64 k ∧ Hid (LsLk nodLk (es.take k) fs) ∧ Hid (wr.ownsRow w.heap.size 94 23 (.slice (some ⟨w.heap.size, 0, none⟩) es.length es.length) es.length (fs.map nodC ++ List.replicate (es.length - k) nodZ).flatten) ∧ Hid (∀ f ∈ fs, nodOwn n (w.heap.size + 1) wr f) ∧ Hid (Below w.heap.size w wr) ∧ Hid (w.heap.size < wr.heap.size))
  (fun i _ => es.length - (intOf i).toNat)
 case atStart => exact ⟨0, [], Nat.zero_le _, rfl, ⟨by simp, fun i h => by simp at h⟩, O0.out, (fun f hf => by cases hf), B0.out, H0.out⟩
 case round =>
  obtain ⟨k, fs, hk, rfl, LK, OW, OE, BW, HW⟩ := hrel
  clear O0 B0 H0
  by_cases hlt : k < es.length
  ·have hal := HA.out (by omega)
   subst hal
   have hi2 : (k : Int) < (es.length : Int) := by omega
   have RU := hq (RG.out wr BW.out k hlt)
   go_wp2_with (refine wpList_load_mid rfl 79 _ rfl b (off + k * 23) rfl (nodC es[k]) _ RU.out Try.underlying79 rfl (show (Try.prog.info? 79).map (·.size) = some 23 by kernel_rfl) ?_)
   refine (TO.out wr k hlt BW.out).mono ?_
   rintro e w1 ⟨M, rfl, hlk, ho, b1⟩
   have hfl : fs.length = k := by have := LK.out.1; rw [List.length_take] at this; omega
   have LK2 := hq (LsLk.snoc hlt (y := (M, es[k].2)) LK.out ⟨hlk, rfl⟩)
   have AK : AllK 23 (fs.map nodC ++ List.replicate (es.length - k) nodZ) := fun l hl => by
    rcases List.mem_append.1 hl with h1 | h1
    ·exact allK_map (K := 23) (fun _ => rfl) fs l h1
    ·rw [(List.mem_replicate.1 h1).2]; rfl
   obtain ⟨cc, hcc⟩ : ∃ cc : List Value, cc = nodC (M, es[k].2) := ⟨_, rfl⟩
   have hcl : cc.length = 23 := by rw [hcc]; rfl
   have VE : M.val = .agg cc.toArray := by rw [hcc]; rfl
   rw [VE]
   clear VE
   have PU := owns_putL (owns_below OW.out b1) (by simp [hfl]; omega) AK k hlt cc hcl
   have TH : Hid (w1.there w.heap.size (k * 23) cc.toArray.size) := by show World.there _ _ _ cc.length; rw [hcl]; exact PU.2
   have ES : (fs.map nodC ++ List.replicate (es.length - k) nodZ).set k cc = (fs ++ [(M, es[k].2)]).map nodC ++ List.replicate (es.length - (k + 1)) nodZ := by
    rw [show es.length - k = (es.length - (k + 1)) + 1 by omega, List.replicate_succ, List.set_append_right _ _ (by simp [hfl]), List.length_map, hfl, Nat.sub_self, List.set_cons_zero, List.map_append, hcc]
    simp
   have P1 := PU.1
   rw [ES] at P1
   have OW2 := hq P1
   have GC : Chg (fun g => g = w.heap.size) w1 (w1.setCells w.heap.size (k * 23) cc) := Chg.setCells (F := fun b => b = w.heap.size) (g := w.heap.size) (fun _ => rfl) _ _ w1 (Chg.refl _ _)
   have BW2 := hq ((Below.and BW.out b1).trans (GC.below (fun g hg e => by omega) (Below.and BW.out b1).size))
   have HW2 : Hid (w.heap.size < (w1.setCells w.heap.size (k * 23) cc).heap.size) := Nat.lt_of_lt_of_le (Nat.lt_of_lt_of_le HW.out b1.size) GC.size
   have OE2 : Hid (∀ f ∈ fs ++ [(M, es[k].2)], nodOwn n (w.heap.size + 1) (w1.setCells w.heap.size (k * 23) cc) f) := fun f hf => by
    rcases List.mem_append.1 hf with h1 | h1
    ·exact NodOwn.but (NodOwn.below (OE.out f h1) b1) GC (Nat.lt_succ_self _)
    ·rw [List.mem_singleton.1 h1]
     exact NodOwn.but (NodOwn.low ho HW.out) GC (Nat.lt_succ_self _)
   have ONE : Hid (cc.toArray.all (·.oneCell') = true) := by rw [hcc]; exact ho.at.ones
   have HM : Hid ((Try.prog.info? 94).map (·.size) = some cc.toArray.size) := by show _ = some cc.length; rw [hcl]; exact (show (Try.prog.info? 94).map (·.size) = some 23 by kernel_rfl)
   clear hcc hcl PU P1 GC AK ES b1 hlk ho OW LK BW HW OE
   go_wp2_with (refine wpList_store_mid rfl 94 _ _ rfl w.heap.size (k * 23) cc.toArray rfl rfl TH.out HM.out ONE.out ?_)
   generalize w1.setCells w.heap.size (k * 23) cc = W2 at *
   go_roundw
   case rel => exact ⟨k + 1, fs ++ [(M, es[k].2)], by omega, by go_num, LK2.out, OW2.out, OE2.out, BW2.out, HW2.out⟩
   case measure => simp [intOf]; omega
  ·have hi2 : ¬ (k : Int) < (es.length : Int) := by omega
   have hke : k = es.length := by omega
   have L2 : Hid (LsLk nodLk es fs) := by have := LK.out; rw [hke, List.take_length] at this; exact this
   have O2 : Hid (wr.ownsRow w.heap.size 94 23 (.slice (some ⟨w.heap.size, 0, none⟩) es.length es.length) fs.length (fs.map nodC).flatten) := by
    have := OW.out
    rw [hke, Nat.sub_self, List.replicate_zero, List.append_nil] at this
    show World.ownsRow _ _ _ _ _ _ _
    rw [← L2.out.1]
    exact this
   clear LK OW
   go_wp2
   go_ret
   exact ⟨_, rfl, fs, L2.out, O2.out, (fun x y hf => NodOwn.low (OE.out (x, y) hf) (Nat.le_succ _)), BW.out⟩

theorem toRpcS_own (n : Nat) (v : Value) (es : List RpcE) (w : World) (h : LsAt rpcC (rpcAt n) w v es) (hs : ∀ e ∈ es, e.2.small n) (hn : es.length ≤ 1048576) :
  Calls Try.prog 15 #[v] w fun e w' => ∃ (v' : Value) (fs : List RpcE), e = .returned v' ∧ LsLk rpcLk es fs ∧ w'.ownsRow w.heap.size 97 15 v' fs.length (fs.map rpcC).flatten ∧ (∀ f ∈ fs, rpcOwn n w.heap.size w' f) ∧ Below w.heap.size w w' := by
 obtain ⟨a, b, off, cap, rfl, hcap, hmax, ha, rg⟩ := h.parts (K := 15) (fun _ => rfl)
 obtain ⟨i0, hi, hz0, hz1, hz2⟩ := info_parts (show (Try.prog.info? 97).map (fun i => (i.zero, i.size, i.bytes)) = some (some (.agg rpcZ.toArray), 15, 216) by kernel_rfl)
 unfold maxLen at hmax
 have TO := hq (fun u i (hi : i < es.length) (hu : Below w.heap.size w u) => toRpc_own n es[i].1 es[i].2 u ((h.2 _ (List.getElem_mem hi)).below hu) (hs _ (List.getElem_mem hi)))
 have RG := hq rg
 have HA := hq ha
 clear h rg ha hs
 go_enter Try.func15, Try.ntmps15
 go_wp2_with (at_make; refine wpList_make_full _ rfl _ _ 32 rfl w.heap.size 97 i0 _ 15 Try.underlying32 hi hz0 hz1 .i64 .i64 _ _ es.length rfl rfl rfl rfl ?c1 ?c2 ?c3 ?_)
 case c1 => rw [hz2]; omega
 case c2 => unfold maxLen; omega
 case c3 => exact Nat.le_refl _
 intro w0 hown0 hgrow0
 have B0 := hq ((Below.refl w.heap.size w).grown hgrow0 (Nat.le_refl _) (fun k hk => by cases hk))
 have O0 : Hid (w0.ownsRow w.heap.size 97 15 (.slice (some ⟨w.heap.size, 0, none⟩) es.length es.length) es.length (List.replicate es.length rpcZ).flatten) := by
  show World.ownsRow _ _ _ _ _ _ _
  rw [← made_flat rpcZ 15 rfl (by decide) es.length]
  exact hown0
 have H0 : Hid (w.heap.size < w0.heap.size) := by
  obtain ⟨_, h2⟩ := O0.out
  rcases h2 with ⟨h2, _⟩ | ⟨g, _, cur, hv, _, hg, _⟩
  ·cases h2
  ·simp only [Value.slice.injEq, Option.some.injEq, Addr.mk.injEq, true_and, and_true] at hv
   rw [hv.1]
   exact (Array.getElem?_eq_some_iff.1 hg).1
 clear hgrow0 hown0 hi hz0 hz1 hz2
 go_wp2
 go_loopw [4] (fun i wr => ∃ (k : Nat) (fs : List RpcE), k ≤ es.length ∧ i = .int .i64 k ∧ Hid (LsLk rpcLk (es.take k) fs) ∧ Hid (wr.ownsRow w.heap.size 97 15 (.slice (some ⟨w.heap.size, 0, none⟩) es.length es.length) es.length (fs.map rpcC ++ List.replicate (es.length - k) rpcZ).flatten) ∧ Hid (∀ f ∈ fs, rpcOwn n (w.heap.size + 1) wr f) ∧ Hid (Below w.heap.size w wr) ∧ Hid (w.heap.size < wr.heap.size))
  (fun i _ => es.length - (intOf i).toNat)
 case atStart => exact ⟨0, [], Nat.zero_le _, rfl, ⟨by simp, fun i h => by simp at h⟩, O0.out, (fun f hf => by cases hf), B0.out, H0.out⟩
 case round =>
  obtain ⟨k, fs, hk, rfl, LK, OW, OE, BW, HW⟩ := hrel
  clear O0 B0 H0
  by_cases hlt : k < es.length
  ·have hal := HA.out (by omega)
   subst hal
   have hi2 : (k : Int) < (es.length : Int) := by omega
   have RU := hq (RG.out wr BW.out k hlt)
   go_wp2_with (refine wpList_load_mid rfl 82 _ rfl b (off + k * 15) rfl (rpcC es[k]) _ RU.out Try.underlying82 rfl (show (Try.prog.info? 82).map (·.size) = some 15 by kernel_rfl) ?_)
   refine (TO.out wr k hlt BW.out).mono ?_
   rintro e w1 ⟨M, rfl, hlk, ho, b1⟩
   have hfl : fs.length = k := by have := LK.out.1; rw [List.length_take] at this; omega
   have LK2 := hq (LsLk.snoc hlt (y := (M, es[k].2)) LK.out ⟨hlk, rfl⟩)
   have AK : AllK 15 (fs.map rpcC ++ List.replicate (es.length - k) rpcZ) := fun l hl => by
    rcases List.mem_append.1 hl with h1 | h1
    ·exact allK_map (K := 15) (fun _ => rfl) fs l h1
    ·rw [(List.mem_replicate.1 h1).2]; rfl
   obtain ⟨cc, hcc⟩ : ∃ cc : List Value, cc = rpcC (M, es[k].2) := ⟨_, rfl⟩
   have hcl : cc.length = 15 := by rw [hcc]; rfl
   have VE : M.val = .agg cc.toArray := by rw [hcc]; rfl
   rw [VE]
   clear VE
   have PU := owns_putL (owns_below OW.out b1) (by simp [hfl]; omega) AK k hlt cc hcl
   have TH : Hid (w1.there w.heap.size (k * 15) cc.toArray.size) := by show World.there _ _ _ cc.length; rw [hcl]; exact PU.2
   have ES : (fs.map rpcC ++ List.replicate (es.length - k) rpcZ).set k cc = (fs ++ [(M, es[k].2)]).map rpcC ++ List.replicate (es.length - (k + 1)) rpcZ := by
    rw [show es.length - k = (es.length - (k + 1)) + 1 by omega, List.replicate_succ, List.set_append_right _ _ (by simp [hfl]), List.length_map, hfl, Nat.sub_self, List.set_cons_zero, List.map_append, hcc]
    simp
   have P1 := PU.1
   rw [ES] at P1
   have OW2 := hq P1
   have GC : Chg (fun g => g = w.heap.size) w1 (w1.setCells w.heap.size (k * 15) cc) := Chg.setCells (F := fun b => b = w.heap.size) (g := w.heap.size) (fun _ => rfl) _ _ w1 (Chg.refl _ _)
   have BW2 := hq ((Below.and BW.out b1).trans (GC.below (fun g hg e => by omega) (Below.and BW.out b1).size))
   have HW2 : Hid (w.heap.size < (w1.setCells w.heap.size (k * 15) cc).heap.size) := Nat.lt_of_lt_of_le (Nat.lt_of_lt_of_le HW.out b1.size) GC.size
   have OE2 : Hid (∀ f ∈ fs ++ [(M, es[k].2)], rpcOwn n (w.heap.size + 1) (w1.setCells w.heap.size (k * 15) cc) f) := fun f hf => by
    rcases List.mem_append.1 hf with h1 | h1
    ·exact RpcOwn.but (RpcOwn.below (OE.out f h1) b1) GC (Nat.lt_succ_self _)
    ·rw [List.mem_singleton.1 h1]
     exact RpcOwn.but (RpcOwn.low ho HW.out) GC (Nat.lt_succ_self _)
   have ONE : Hid (cc.toArray.all (·.oneCell') = true) := by rw [hcc]; exact ho.at.ones
   have HM : Hid ((Try.prog.info? 97).map (·.size) = some cc.toArray.size) := by show _ = some cc.length; rw [hcl]; exact (show (Try.prog.info? 97).map (·.size) = some 15 by kernel_rfl)
   clear hcc hcl PU P1 GC AK ES b1 hlk ho OW LK BW HW OE
   go_wp2_with (refine wpList_store_mid rfl 97 _ _ rfl w.heap.size (k * 15) cc.toArray rfl rfl TH.out HM.out ONE.out ?_)
   generalize w1.setCells w.heap.size (k * 15) cc = W2 at *
   go_roundw
   case rel => exact ⟨k + 1, fs ++ [(M, es[k].2)], by omega, by go_num, LK2.out, OW2.out, OE2.out, BW2.out, HW2.out⟩
   case measure => simp [intOf]; omega
  ·have hi2 : ¬ (k : Int) < (es.length : Int) := by omega
   have hke : k = es.length := by omega
   have L2 : Hid (LsLk rpcLk es fs) := by have := LK.out; rw [hke, List.take_length] at this; exact this
   have O2 : Hid (wr.ownsRow w.heap.size 97 15 (.slice (some ⟨w.heap.size, 0, none⟩) es.length es.length) fs.length (fs.map rpcC).flatten) := by
    have := OW.out
    rw [hke, Nat.sub_self, List.replicate_zero, List.append_nil] at this
    show World.ownsRow _ _ _ _ _ _ _
    rw [← L2.out.1]
    exact this
   clear LK OW
   go_wp2
   go_ret
   exact ⟨_, rfl, fs, L2.out, O2.out, (fun x y hf => RpcOwn.low (OE.out (x, y) hf) (Nat.le_succ _)), BW.out⟩

theorem toCmdS_own (v : Value) (es : List CmdE) (w : World) (h : LsAt cmdC noAt w v es) (hn : es.length ≤ 1048576) :
  Calls Try.prog 16 #[v] w fun e w' => ∃ (v' : Value) (fs : List CmdE), e = .returned v' ∧ LsLk Eq es fs ∧ w'.ownsRow w.heap.size 49 5 v' fs.length (fs.map cmdC).flatten ∧ Below w.heap.size w w' := by
 obtain ⟨a, b, off, cap, rfl, hcap, hmax, ha, rg⟩ := h.parts (K := 5) (fun _ => rfl)
 obtain ⟨i0, hi, hz0, hz1, hz2⟩ := info_parts (show (Try.prog.info? 49).map (fun i => (i.zero, i.size, i.bytes)) = some (some (.agg cmdZ.toArray), 5, 40) by kernel_rfl)
 unfold maxLen at hmax
 have RG := hq rg
 have HA := hq ha
 clear h rg ha
 go_enter Try.func16, Try.ntmps16
 go_wp2_with (at_make; refine wpList_make_full _ rfl _ _ 33 rfl w.heap.size 49 i0 _ 5 Try.underlying33 hi hz0 hz1 .i64 .i64 _ _ es.length rfl rfl rfl rfl ?c1 ?c2 ?c3 ?_)
 case c1 => rw [hz2]; omega
 case c2 => unfold maxLen; omega
 case c3 => exact Nat.le_refl _
 intro w0 hown0 hgrow0
 have B0 := hq ((Below.refl w.heap.size w).grown hgrow0 (Nat.le_refl _) (fun k hk => by cases hk))
 have O0 : Hid (w0.ownsRow w.heap.size 49 5 (.slice (some ⟨w.heap.size, 0, none⟩) es.length es.length) es.length (List.replicate es.length cmdZ).flatten) := by
  show World.ownsRow _ _ _ _ _ _ _
  rw [← made_flat cmdZ 5 rfl (by decide) es.length]
  exact hown0
 have H0 : Hid (w.heap.size < w0.heap.size) := by
  obtain ⟨_, h2⟩ := O0.out
  rcases h2 with ⟨h2, _⟩ | ⟨g, _, cur, hv, _, hg, _⟩
  ·cases h2
  ·simp only [Value.slice.injEq, Option.some.injEq, Addr.mk.injEq, true_and, and_true] at hv
   rw [hv.1]
   exact (Array.getElem?_eq_some_iff.1 hg).1
 clear hgrow0 hown0 hi hz0 hz1 hz2
 go_wp2
 go_loopw [4] (fun i wr => ∃ (k : Nat) (fs : List CmdE), k ≤ es.length ∧ i = .int .i64 k ∧ Hid (LsLk Eq (es.take k) fs) ∧ Hid (wr.ownsRow w.heap.size 49 5 (.slice (some ⟨w.heap.size, 0, none⟩) es.length es.length) es.length (fs.map cmdC ++ List.replicate (es.length - k) cmdZ).flatten) ∧ Hid (Below w.heap.size w wr) ∧ Hid (w.heap.size < wr.heap.size))
  (fun i _ => es.length - (intOf i).toNat)
 case atStart => exact ⟨0, [], Nat.zero_le _, rfl, ⟨by simp, fun i h => by simp at h⟩, O0.out, B0.out, H0.out⟩
 case round =>
  obtain ⟨k, fs, hk, rfl, LK, OW, BW, HW⟩ := hrel
  clear O0 B0 H0
  by_cases hlt : k < es.length
  ·have hal := HA.out (by omega)
   subst hal
   have hi2 : (k : Int) < (es.length : Int) := by omega
   have RU := hq (RG.out wr BW.out k hlt)
   go_wp2_with (refine wpList_load_mid rfl 102 _ rfl b (off + k * 5) rfl (cmdC es[k]) _ RU.out Try.underlying102 rfl (show (Try.prog.info? 102).map (·.size) = some 5 by kernel_rfl) ?_)
   refine (toCmd_c es[k] wr).mono ?_
   rintro e w1 ⟨rfl, b1⟩
   have hfl : fs.length = k := by have := LK.out.1; rw [List.length_take] at this; omega
   have LK2 := hq (LsLk.snoc hlt (y := es[k]) LK.out rfl)
   have AK : AllK 5 (fs.map cmdC ++ List.replicate (es.length - k) cmdZ) := fun l hl => by
    rcases List.mem_append.1 hl with h1 | h1
    ·exact allK_map (K := 5) (fun _ => rfl) fs l h1
    ·rw [(List.mem_replicate.1 h1).2]; rfl
   obtain ⟨cc, hcc⟩ : ∃ cc : List Value, cc = cmdC es[k] := ⟨_, rfl⟩
   have hcl : cc.length = 5 := by rw [hcc]; rfl
   rw [← hcc]
   have PU := owns_putL (owns_below OW.out b1) (by simp [hfl]; omega) AK k hlt cc hcl
   have TH : Hid (w1.there w.heap.size (k * 5) cc.toArray.size) := by show World.there _ _ _ cc.length; rw [hcl]; exact PU.2
   have ES : (fs.map cmdC ++ List.replicate (es.length - k) cmdZ).set k cc = (fs ++ [es[k]]).map cmdC ++ List.replicate (es.length - (k + 1)) cmdZ := by
    rw [show es.length - k = (es.length - (k + 1)) + 1 by omega, List.replicate_succ, List.set_append_right _ _ (by simp [hfl]), List.length_map, hfl, Nat.sub_self, List.set_cons_zero, List.map_append, hcc]
    simp
   have P1 := PU.1
   rw [ES] at P1
   have OW2 := hq P1
   have GC : Chg (fun g => g = w.heap.size) w1 (w1.setCells w.heap.size (k * 5) cc) := Chg.setCells (F := fun b => b = w.heap.size) (g := w.heap.size) (fun _ => rfl) _ _ w1 (Chg.refl _ _)
   have BW2 := hq ((Below.and BW.out b1).trans (GC.below (fun g hg e => by omega) (Below.and BW.out b1).size))
   have HW2 : Hid (w.heap.size < (w1.setCells w.heap.size (k * 5) cc).heap.size) := Nat.lt_of_lt_of_le (Nat.lt_of_lt_of_le HW.out b1.size) GC.size
   have ONE : Hid (cc.toArray.all (·.oneCell') = true) := by rw [hcc]; exact (show (cmdC es[k]).toArray.all (·.oneCell') = true by simp [cmdC, Value.oneCell'])
   have HM : Hid ((Try.prog.info? 49).map (·.size) = some cc.toArray.size) := by show _ = some cc.length; rw [hcl]; exact (show (Try.prog.info? 49).map (·.size) = some 5 by kernel_rfl)
   clear hcc hcl PU P1 GC AK ES b1 OW LK BW HW
   go_wp2_with (refine wpList_store_mid rfl 49 _ _ rfl w.heap.size (k * 5) cc.toArray rfl rfl TH.out HM.out ONE.out ?_)
   generalize w1.setCells w.heap.size (k * 5) cc = W2 at *
   go_roundw
   case rel => exact ⟨k + 1, fs ++ [es[k]], by omega, by go_num, LK2.out, OW2.out, BW2.out, HW2.out⟩
   case measure => simp [intOf]; omega
  ·have hi2 : ¬ (k : Int) < (es.length : Int) := by omega
   have hke : k = es.length := by omega
   have L2 : Hid (LsLk Eq es fs) := by have := LK.out; rw [hke, List.take_length] at this; exact this
   have O2 : Hid (wr.ownsRow w.heap.size 49 5 (.slice (some ⟨w.heap.size, 0, none⟩) es.length es.length) fs.length (fs.map cmdC).flatten) := by
    have := OW.out
    rw [hke, Nat.sub_self, List.replicate_zero, List.append_nil] at this
    show World.ownsRow _ _ _ _ _ _ _
    rw [← L2.out.1]
    exact this
   clear LK OW
   go_wp2
   go_ret
   exact ⟨_, rfl, fs, L2.out, O2.out, BW.out⟩

theorem toLeadS_own (v : Value) (es : List LedE) (w : World) (h : LsAt ledC noAt w v es) (hn : es.length ≤ 1048576) :
  Calls Try.prog 18 #[v] w fun e w' => ∃ (v' : Value) (fs : List LedE), e = .returned v' ∧ LsLk Eq es fs ∧ w'.ownsRow w.heap.size 108 2 v' fs.length (fs.map ledC).flatten ∧ Below w.heap.size w w' := by
 obtain ⟨a, b, off, cap, rfl, hcap, hmax, ha, rg⟩ := h.parts (K := 2) (fun _ => rfl)
 obtain ⟨i0, hi, hz0, hz1, hz2⟩ := info_parts (show (Try.prog.info? 108).map (fun i => (i.zero, i.size, i.bytes)) = some (some (.agg ledZ.toArray), 2, 16) by kernel_rfl)
 unfold maxLen at hmax
 have RG := hq rg
 have HA := hq ha
 clear h rg ha
 go_enter Try.func18, Try.ntmps18
 go_wp2_with (at_make; refine wpList_make_full _ rfl _ _ 35 rfl w.heap.size 108 i0 _ 2 Try.underlying35 hi hz0 hz1 .i64 .i64 _ _ es.length rfl rfl rfl rfl ?c1 ?c2 ?c3 ?_)
 case c1 => rw [hz2]; omega
 case c2 => unfold maxLen; omega
 case c3 => exact Nat.le_refl _
 intro w0 hown0 hgrow0
 have B0 := hq ((Below.refl w.heap.size w).grown hgrow0 (Nat.le_refl _) (fun k hk => by cases hk))
 have O0 : Hid (w0.ownsRow w.heap.size 108 2 (.slice (some ⟨w.heap.size, 0, none⟩) es.length es.length) es.length (List.replicate es.length ledZ).flatten) := by
  show World.ownsRow _ _ _ _ _ _ _
  rw [← made_flat ledZ 2 rfl (by decide) es.length]
  exact hown0
 have H0 : Hid (w.heap.size < w0.heap.size) := by
  obtain ⟨_, h2⟩ := O0.out
  rcases h2 with ⟨h2, _⟩ | ⟨g, _, cur, hv, _, hg, _⟩
  ·cases h2
  ·simp only [Value.slice.injEq, Option.some.injEq, Addr.mk.injEq, true_and, and_true] at hv
   rw [hv.1]
   exact (Array.getElem?_eq_some_iff.1 hg).1
 clear hgrow0 hown0 hi hz0 hz1 hz2
 go_wp2
 go_loopw [4] (fun i wr => ∃ (k : Nat) (fs : List LedE), k ≤ es.length ∧ i = .int .i64 k ∧ Hid (LsLk Eq (es.take k) fs) ∧ Hid (wr.ownsRow w.heap.size 108 2 (.slice (some ⟨w.heap.size, 0, none⟩) es.length es.length) es.length (fs.map ledC ++ List.replicate (es.length - k) ledZ).flatten) ∧ Hid (Below w.heap.size w wr) ∧ Hid (w.heap.size < wr.heap.size))
  (fun i _ => es.length - (intOf i).toNat)
 case atStart => exact ⟨0, [], Nat.zero_le _, rfl, ⟨by simp, fun i h => by simp at h⟩, O0.out, B0.out, H0.out⟩
 case round =>
  obtain ⟨k, fs, hk, rfl, LK, OW, BW, HW⟩ := hrel
  clear O0 B0 H0
  by_cases hlt : k < es.length
  ·have hal := HA.out (by omega)
   subst hal
   have hi2 : (k : Int) < (es.length : Int) := by omega
   have RU := hq (RG.out wr BW.out k hlt)
   go_wp2_with (refine wpList_load_mid rfl 110 _ rfl b (off + k * 2) rfl (ledC es[k]) _ RU.out Try.underlying110 rfl (show (Try.prog.info? 110).map (·.size) = some 2 by kernel_rfl) ?_)
   refine (toLead_c es[k] wr).mono ?_
   rintro e w1 ⟨rfl, b1⟩
   have hfl : fs.length = k := by have := LK.out.1; rw [List.length_take] at this; omega
   have LK2 := hq (LsLk.snoc hlt (y := es[k]) LK.out rfl)
   have AK : AllK 2 (fs.map ledC ++ List.replicate (es.length - k) ledZ) := fun l hl => by
    rcases List.mem_append.1 hl with h1 | h1
    ·exact allK_map (K := 2) (fun _ => rfl) fs l h1
    ·rw [(List.mem_replicate.1 h1).2]; rfl
   obtain ⟨cc, hcc⟩ : ∃ cc : List Value, cc = ledC es[k] := ⟨_, rfl⟩
   have hcl : cc.length = 2 := by rw [hcc]; rfl
   rw [← hcc]
   have PU := owns_putL (owns_below OW.out b1) (by simp [hfl]; omega) AK k hlt cc hcl
   have TH : Hid (w1.there w.heap.size (k * 2) cc.toArray.size) := by show World.there _ _ _ cc.length; rw [hcl]; exact PU.2
   have ES : (fs.map ledC ++ List.replicate (es.length - k) ledZ).set k cc = (fs ++ [es[k]]).map ledC ++ List.replicate (es.length - (k + 1)) ledZ := by
    rw [show es.length - k = (es.length - (k + 1)) + 1 by omega, List.replicate_succ, List.set_append_right _ _ (by simp [hfl]), List.length_map, hfl, Nat.sub_self, List.set_cons_zero, List.map_append, hcc]
    simp
   have P1 := PU.1
   rw [ES] at P1
   have OW2 := hq P1
   have GC : Chg (fun g => g = w.heap.size) w1 (w1.setCells w.heap.size (k * 2) cc) := Chg.setCells (F := fun b => b = w.heap.size) (g := w.heap.size) (fun _ => rfl) _ _ w1 (Chg.refl _ _)
   have BW2 := hq ((Below.and BW.out b1).trans (GC.below (fun g hg e => by omega) (Below.and BW.out b1).size))
   have HW2 : Hid (w.heap.size < (w1.setCells w.heap.size (k * 2) cc).heap.size) := Nat.lt_of_lt_of_le (Nat.lt_of_lt_of_le HW.out b1.size) GC.size
   have ONE : Hid (cc.toArray.all (·.oneCell') = true) := by rw [hcc]; exact (show (ledC es[k]).toArray.all (·.oneCell') = true by simp [ledC, Value.oneCell'])
   have HM : Hid ((Try.prog.info? 108).map (·.size) = some cc.toArray.size) := by show _ = some cc.length; rw [hcl]; exact (show (Try.prog.info? 108).map (·.size) = some 2 by kernel_rfl)
   clear hcc hcl PU P1 GC AK ES b1 OW LK BW HW
   go_wp2_with (refine wpList_store_mid rfl 108 _ _ rfl w.heap.size (k * 2) cc.toArray rfl rfl TH.out HM.out ONE.out ?_)
   generalize w1.setCells w.heap.size (k * 2) cc = W2 at *
   go_roundw
   case rel => exact ⟨k + 1, fs ++ [es[k]], by omega, by go_num, LK2.out, OW2.out, BW2.out, HW2.out⟩
   case measure => simp [intOf]; omega
  ·have hi2 : ¬ (k : Int) < (es.length : Int) := by omega
   have hke : k = es.length := by omega
   have L2 : Hid (LsLk Eq es fs) := by have := LK.out; rw [hke, List.take_length] at this; exact this
   have O2 : Hid (wr.ownsRow w.heap.size 108 2 (.slice (some ⟨w.heap.size, 0, none⟩) es.length es.length) fs.length (fs.map ledC).flatten) := by
    have := OW.out
    rw [hke, Nat.sub_self, List.replicate_zero, List.append_nil] at this
    show World.ownsRow _ _ _ _ _ _ _
    rw [← L2.out.1]
    exact this
   clear LK OW
   go_wp2
   go_ret
   exact ⟨_, rfl, fs, L2.out, O2.out, BW.out⟩
end
end Go.Proofs.Ythfmifdpldmbaaa
