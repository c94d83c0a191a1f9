/-
  The generic sorted map of chapter 1 at ints: its three methods, by contracts.
  The laws' own functions that write marks into a list of pairs, and look for them.
  MapGet as a plain function.
-/
import Derived.Test.YtcmofojechfccaaGreatOfDrain2
import Derived.Lib.RowBridge
import Derived.Test.YtcmofojechfccaaGreatOfDrain1
namespace Go.Proofs.YtcmofojechfccaaGreat
set_option maxRecDepth 100000
set_option maxHeartbeats 8000000
section
open Go.RowKit

theorem delete_own (v:Value) (zs:List Int) (i:Nat) (w:World) (ho:w.ownsRow 0 3 1 v zs.length (zs.map (Value.int .i64))) (hi:i<zs.length) :
  Calls Tryz.prog 199 #[v, .int .i64 i, .int .i64 (i+1:Nat)] w fun e w'=>
   ∃v',e= .returned v' ∧w'.ownsRow 0 3 1 v' (zs.length-1) ((zs.take i++zs.drop (i+1)).map (Value.int .i64))/\Chg (fun g=>v.ownBlock=some g) w w' ∧v'.ownBlock=v.ownBlock:=by
 obtain⟨hl,h|⟨g,cap,cur,rfl,hg,hh,hn,hcap,hsz,htake⟩⟩:=ho
 ·obtain⟨_,h0⟩:=h;omega
 ·simp only[Nat.mul_one] at hsz htake
  have hH:Go.Sort.Holds (Value.int .i64) w g 0 zs.toArray:=by
   intro j hj
   have hj' :j<zs.length:=by simpa using hj
   refine⟨?_,frozen_of_cells hh⟩
   have e:(zs.map (Value.int .i64))[j]? =some (.int .i64 zs[j]):=by simp[hj']
   rw[←htake,List.getElem?_take,if_pos hj'] at e
   rw[Nat.zero_add,cell_of_cells hh, ← Array.getElem?_toList,e]
   simp[hj']
  have hcap' :=hcap
  unfold maxLen at hcap'
  refine(Tryz.slices_Delete_int g 0 cap i (i+1) zs w hH hn (by omega) (by omega) (by omega)).mono ?_
  rintro e w' ⟨rfl,q,rfl⟩
  have hlen:(zs.take i++zs.drop (i+1)++List.replicate (i+1-i) 0).length=zs.length:=by simp;omega
  rw[Go.Lib.putRow_eq_setCells (Value.int .i64) w g 0 zs.toArray _ q hH (by simpa using hlen)]
  have h1:=heap_setCells_same g 3 ((zs.take i++zs.drop (i+1)++List.replicate (i+1-i) 0).map (Value.int .i64)) 0 (w.drewN q) cur hh
  rw[show zs.length-(i+1-i)=zs.length-1 by omega]
  refine⟨_,rfl,owns_of h1 (by omega) hcap (by rw[spl_size];exact hsz) ?_ (by simp;omega),Chg.setCells (F:=fun k=>(Value.slice (some ⟨g,0,none⟩) zs.length cap).ownBlock=some k) (fun _=>rfl) _ _ _ ((Chg.refl _ _).drewN q),rfl⟩
  rw[spl_toList _ _ _ (by rw[List.length_map,hlen];omega),List.take_zero,List.nil_append,List.map_append,List.append_assoc,take_app (by simp;omega)]

theorem search_own (v:Value) (zs:List Int) (x:Int) (w:World) (ho:w.ownsRow 0 3 1 v zs.length (zs.map (Value.int .i64))) (hs:zs.Pairwise (· <= ·)) (hbig:zs.length<=1099511627776) :
  Calls Tryz.prog 197 #[v, .int .i64 x] w fun e w' =>e= .returned (.tuple #[.int .i64 (zs.countP (· < x):Nat), .bool (zs.contains x)])/\∃q,w' =w.drewN q:=by
 obtain⟨hl,h|⟨g,cap,cur,rfl,hg,hh,hn,hcap,hsz,htake⟩⟩:=ho
 ·obtain⟨rfl,h0⟩:=h
  have hz:zs=[]:=List.length_eq_zero_iff.1 h0
  subst hz
  refine(Tryz.slices_BinarySearch_int_empty none 0 x w).mono ?_
  rintro e w' ⟨rfl,rfl⟩
  exact⟨rfl,0,rfl⟩
 ·simp only[Nat.mul_one] at hsz htake
  have:=Tryz.slices_BinarySearch_int g 0 zs.length cap zs x w (Nat.le_refl _) (by omega) (fun j hj=>by
   have e:(zs.map (Value.int .i64))[j]? =some (.int .i64 zs[j]):=by simp[hj]
   rw[←htake,List.getElem?_take,if_pos hj] at e
   rw[Nat.zero_add,cell_of_cells hh, ← Array.getElem?_toList,e]
   simp[List.getD,hj]) (by rw[List.take_of_length_le (Nat.le_refl _)];exact hs)
  rw[List.take_of_length_le (Nat.le_refl _)] at this
  exact this

def Srt (w:World) (B:Nat) (F:Nat->Prop) (ks vs:List Int):Prop:=
 ∃kv vv,w.heap[B]? =some (.cells #[kv,vv] 190 (0,0))/\w.ownsRow 0 3 1 kv ks.length (ks.map (Value.int .i64))/\w.ownsRow 0 3 1 vv vs.length (vs.map (Value.int .i64))∧
  (∀g,kv.ownBlock=some g->vv.ownBlock≠some g)/\F B/\(∀g,kv.ownBlock=some g->F g)/\(∀g,vv.ownBlock=some g->F g)

theorem Srt.chg {w w' :World} {B:Nat} {F G:Nat->Prop} {ks vs:List Int} (h:Srt w B F ks vs) (hc:Chg G w w') (hd:∀g,F g->¬G g):Srt w' B F ks vs:=by
 obtain⟨kv,vv,h1,h2,h3,h4,h5,h6,h7⟩:=h
 exact⟨kv,vv,row_chg h1 hc (hd _ h5),owns_chg h2 hc (fun g hg=>hd _ (h6 g hg)),owns_chg h3 hc (fun g hg=>hd _ (h7 g hg)),h4,h5,h6,h7⟩

theorem owns_val {w:World} {base e size n:Nat} {v:Value} {xs:List Value} (h:w.ownsRow base e size v n xs):∃a cap,v= .slice a n cap:=by
 obtain⟨_,⟨rfl,rfl⟩|⟨g,cap,cur,rfl,_⟩⟩:=h
 ·exact⟨none,0,rfl⟩
 ·exact⟨_,_,rfl⟩
theorem owns_lt {w:World} {base e size n:Nat} {v:Value} {xs:List Value} (h:w.ownsRow base e size v n xs) {g:Nat} (hg:v.ownBlock=some g):g<w.heap.size/\∃cur,w.heap[g]? =some (.cells cur e (0,0)):=by
 obtain⟨_,⟨rfl,rfl⟩|⟨g',cap,cur,rfl,_,hh,_⟩⟩:=h
 ·simp[Value.ownBlock] at hg
 ·simp only[Value.ownBlock,Option.some.injEq] at hg
  subst hg
  exact⟨(Array.getElem?_eq_some_iff.1 hh).1,cur,hh⟩

theorem found_lt {ks:List Int} {k:Int} (h:ks.contains k=true):ks.countP (fun x=>decide (x<k))<ks.length:=by
 have hm:k∈ks:=by simpa using h
 rcases Nat.lt_or_ge (ks.countP (fun x=>decide (x<k))) ks.length with h1|h1
 ·exact h1
 ·have:=List.countP_eq_length.1 (Nat.le_antisymm List.countP_le_length h1) k hm
  simp at this

def keysAfter (ks:List Int) (k:Int):List Int:=if ks.contains k then ks else ks.take (ks.countP (· < k))++k::ks.drop (ks.countP (· < k))
def valsAfter (ks vs:List Int) (k v:Int):List Int:=if ks.contains k then vs.set (ks.countP (· < k)) v else vs.take (ks.countP (· < k))++v::vs.drop (ks.countP (· < k))

theorem owns_at {w:World} {v:Value} {zs:List Int} (h:w.ownsRow 0 3 1 v zs.length (zs.map (Value.int .i64))) {p:Nat} (hp:p<zs.length) :
  ∃g cap,v= .slice (some ⟨g,0,none⟩) zs.length cap/\w.cell? ⟨g,p,none⟩=some (.int .i64 (zs.getD p 0))/\w.frozen? ⟨g,p,none⟩=false/\zs.length<=cap/\cap<=maxLen:=by
 have h0:=h
 obtain⟨_,⟨rfl,h0⟩|⟨g,cap,cur,rfl,_,hh,hn,hcap,_⟩⟩:=h
 ·omega
 ·refine⟨g,cap,rfl, ?_,frozen_of_cells hh,hn,hcap⟩
  rw[h0.cellAt p (by omega)]
  simp[hp,List.getD]

theorem Srt.setVal {w:World} {B:Nat} {F:Nat->Prop} {ks vs:List Int} {g p cap:Nat} {kv:Value} (v:Int) (h1:w.heap[B]? =some (.cells #[kv, .slice (some ⟨g,0,none⟩) vs.length cap] 190 (0,0)))
  (h2:w.ownsRow 0 3 1 kv ks.length (ks.map (Value.int .i64))) (h3:w.ownsRow 0 3 1 (.slice (some ⟨g,0,none⟩) vs.length cap) vs.length (vs.map (Value.int .i64))) (h4:∀g',kv.ownBlock=some g' ->some g≠some g') (h5:F B) (h6:∀g,kv.ownBlock=some g->F g) (h7:F g) (q:Nat) :
  Srt ((w.drewN q).setCell ⟨g,p,none⟩ (.int .i64 v)) B F ks (vs.set p v)/\Chg F w ((w.drewN q).setCell ⟨g,p,none⟩ (.int .i64 v)):=by
 have hgB:B≠g:=by
  intro e
  obtain⟨_,cur,hc⟩:=owns_lt h3 (g:=g) rfl
  rw[←e,h1] at hc
  simp at hc
 have hs:=((owns_below h3 (below_drewN (Below.refl _ _) q)).stored p (.int .i64 v)).1
 have hc0:Chg (fun k=>k=g) w ((w.drewN q).setCell ⟨g,p,none⟩ (.int .i64 v)):=Chg.setCell (F:=fun k=>k=g) ((Chg.refl _ _).drewN q) (fun _=>rfl) _
 have hc:Chg F w ((w.drewN q).setCell ⟨g,p,none⟩ (.int .i64 v)):=((Chg.refl _ _).drewN q).setCell (fun _=>h7) _
 refine⟨⟨kv, .slice (some ⟨g,0,none⟩) vs.length cap,row_chg h1 hc0 hgB,owns_chg h2 hc0 (fun g' hg' e=>h4 g' hg' (congrArg some e.symm)), ?_,fun g' hg' e=>h4 g' hg' e,h5,h6,fun g' hg' => ?_⟩,hc⟩
 ·rw[List.length_set,List.map_set]
  exact hs
 ·cases hg';exact h7

theorem put_found (B:Nat) (F:Nat->Prop) (ks vs:List Int) (k v:Int) (w:World) (h:Srt w B F ks vs) (hs:ks.Pairwise (· <= ·)) (hl:vs.length=ks.length) (hbig:ks.length<=1048576) (hf:ks.contains k=true) :
  Calls Tryz.prog 177 #[.pointer (some ⟨B,0,none⟩), .int .i64 k, .int .i64 v] w fun e w'=>
   e= .returned (.tuple #[])/\∃F',Srt w' B F' ks (vs.set (ks.countP (· < k)) v)/\Chg F w w' ∧(∀g,F' g->F g∨w.heap.size<=g):=by
 obtain⟨kv,vv,h1,h2,h3,h4,h5,h6,h7⟩:=h
 have hp:ks.countP (fun x=>decide (x<k))<ks.length:=found_lt hf
 obtain⟨ka,kc,hkv⟩:=owns_val h2
 obtain⟨g,cap,hvv,d0,d1,hle,hmx⟩:=owns_at h3 (p:=ks.countP (fun x=>decide (x<k))) (by omega)
 have c0:w.cell? ⟨B,0,none⟩=some kv:=by rw[cell_of_cells h1];rfl
 have c1:w.cell? ⟨B,1,none⟩=some vv:=by rw[cell_of_cells h1];rfl
 have SO:=search_own kv ks k w h2 hs (by omega)
 rw[hvv] at h1 h3 h4 h7 c1
 have FIN:Hid (∀q,Srt ((w.drewN q).setCell ⟨g,ks.countP (fun x=>decide (x<k)),none⟩ (.int .i64 v)) B F ks (vs.set (ks.countP (fun x=>decide (x<k))) v)/\Chg F w ((w.drewN q).setCell ⟨g,ks.countP (fun x=>decide (x<k)),none⟩ (.int .i64 v))):=
  fun q=>Srt.setVal v h1 h2 h3 h4 h5 h6 (h7 g rfl) q
 rw[hkv] at c0 SO
 rw[hf] at SO
 have hp2:ks.countP (fun x=>decide (x<k))<vs.length:=by omega
 clear h1 h2 h3 h4 h5 h6 h7 hkv hvv hs hl hf
 unfold maxLen at hmx
 generalize ks.countP (fun x=>decide (x<k))=p at *
 have S1:=(fun (x:Nat)=>SO)
 clear SO
 have S2:Hid _:=S1
 clear S1
 go_enter Tryz.func177,Tryz.ntmps177
 go_wp2_with fail
 refine(S2.out 0).mono ?_
 rintro e w1 ⟨rfl,q,rfl⟩
 go_wp2
 exact bodyPost_ret (v:= .tuple #[]) (by simp[results,Tryz.results177,go_sem]) rfl ⟨rfl,F,(FIN.out q).1,(FIN.out q).2,fun _ hg=>Or.inl hg⟩

theorem Srt.ins {w w2 w4:World} {B:Nat} {F:Nat->Prop} {vs ks' vs' :List Int} {kv vv kv' vv' :Value} {N1 N2:Nat}
  (h1:w.heap[B]? =some (.cells #[kv,vv] 190 (0,0))) (h3:w.ownsRow 0 3 1 vv vs.length (vs.map (Value.int .i64))) (h4:∀g,kv.ownBlock=some g->vv.ownBlock≠some g) (h5:F B) (h6:∀g,kv.ownBlock=some g->F g) (h7:∀g,vv.ownBlock=some g->F g)
  (o2:w2.ownsRow 0 3 1 kv' ks'.length (ks'.map (Value.int .i64))) (c2:Chg (fun g=>kv.ownBlock=some g) w w2) (b2:kv'.ownBlock=kv.ownBlock∨kv'.ownBlock=some N1) (hN1:w.heap.size<=N1)
  (hB2:w2.heap[B]? =some (.cells #[kv,vv] 190 (0,0)))
  (o4:w4.ownsRow 0 3 1 vv' vs'.length (vs'.map (Value.int .i64))) (c4:Chg (fun g=>vv.ownBlock=some g) (w2.setCell ⟨B,0,none⟩ kv') w4) (b4:vv'.ownBlock=vv.ownBlock∨vv'.ownBlock=some N2) (hN2:w2.heap.size<=N2) :
  ∃F',Srt (w4.setCell ⟨B,1,none⟩ vv') B F' ks' vs' ∧Chg F w (w4.setCell ⟨B,1,none⟩ vv')/\(∀g,F' g->F g∨w.heap.size<=g):=by
 have hBlt:B<w.heap.size:=(Array.getElem?_eq_some_iff.1 h1).1
 have hvB:vv.ownBlock≠some B:=fun e=>by
  obtain⟨_,cur,hc⟩:=owns_lt h3 e
  rw[h1] at hc;simp at hc
 have hkB' :kv'.ownBlock≠some B:=fun e=>by
  obtain⟨_,cur,hc⟩:=owns_lt o2 e
  rw[hB2] at hc;simp at hc
 have hvlt:∀g,vv.ownBlock=some g->g<w.heap.size:=fun g hg=>(owns_lt h3 hg).1
 have hklt' :∀g,kv'.ownBlock=some g->g<w2.heap.size:=fun g hg=>(owns_lt o2 hg).1
 have hB3:(w2.setCell ⟨B,0,none⟩ kv').heap[B]? =some (.cells #[kv',vv] 190 (0,0)):=by
  rw[heap_setCell_same w2 B 0 _ 190 kv' hB2];rfl
 have hB4:w4.heap[B]? =some (.cells #[kv',vv] 190 (0,0)):=row_chg hB3 c4 hvB
 have hB5:(w4.setCell ⟨B,1,none⟩ vv').heap[B]? =some (.cells #[kv',vv'] 190 (0,0)):=by
  rw[heap_setCell_same w4 B 1 _ 190 vv' hB4];rfl
 have hkv4:∀g,kv'.ownBlock=some g->vv.ownBlock≠some g:=by
  intro g hg hv
  rcases b2 with e|e
  ·exact h4 g (e ▸ hg) hv
  ·have:=hvlt g hv
   rw[e] at hg;cases hg;omega
 have cB:∀(W:World) (j:Nat) (u:Value),Chg (fun g=>g=B) W (W.setCell ⟨B,j,none⟩ u):=fun W j u=>Chg.setCell (F:=fun g=>g=B) (Chg.refl _ _) (fun _=>rfl) _
 have o2' :(w4.setCell ⟨B,1,none⟩ vv').ownsRow 0 3 1 kv' ks'.length (ks'.map (Value.int .i64)):=
  owns_chg (owns_chg (owns_chg o2 (cB _ 0 kv') (fun g hg e=>hkB' (e ▸ hg))) c4 hkv4) (cB _ 1 vv') (fun g hg e=>hkB' (e ▸ hg))
 have hvB' :vv'.ownBlock≠some B:=fun e=>by
  obtain⟨_,cur,hc⟩:=owns_lt o4 e
  rw[hB4] at hc;simp at hc
 have o4' :(w4.setCell ⟨B,1,none⟩ vv').ownsRow 0 3 1 vv' vs'.length (vs'.map (Value.int .i64)):=owns_chg o4 (cB _ 1 vv') (fun g hg e=>hvB' (e ▸ hg))
 have hsz2:=c2.size
 refine⟨fun g=>g=B∨kv'.ownBlock=some g∨vv'.ownBlock=some g,⟨kv',vv',hB5,o2',o4', ?_,Or.inl rfl,fun g hg=>Or.inr (Or.inl hg),fun g hg=>Or.inr (Or.inr hg)⟩, ?_, ?_⟩
 ·intro g hg hv
  rcases b4 with e|e
  ·exact hkv4 g hg (e ▸ hv)
  ·have:=hklt' g hg
   rw[e] at hv;cases hv;omega
 ·have e1:Chg F w w2:=c2.mono (fun g _ hg=>h6 g hg)
  have e2:Chg F w (w2.setCell ⟨B,0,none⟩ kv'):=e1.setCell (fun _=>h5) _
  have e3:Chg F w w4:=e2.trans c4 (fun g _ hg=>h7 g hg)
  exact e3.setCell (fun _=>h5) _
 ·rintro g (rfl|hg|hg)
  ·exact Or.inl h5
  ·rcases b2 with e|e
   ·exact Or.inl (h6 g (e ▸ hg))
   ·rw[e] at hg;cases hg;exact Or.inr hN1
  ·rcases b4 with e|e
   ·exact Or.inl (h7 g (e ▸ hg))
   ·rw[e] at hg;cases hg;exact Or.inr (by omega)

theorem put_new (B:Nat) (F:Nat->Prop) (ks vs:List Int) (k v:Int) (w:World) (h:Srt w B F ks vs) (hs:ks.Pairwise (· <= ·)) (hl:vs.length=ks.length) (hbig:ks.length<=1048576) (hf:ks.contains k=false) :
  Calls Tryz.prog 177 #[.pointer (some ⟨B,0,none⟩), .int .i64 k, .int .i64 v] w fun e w'=>
   e= .returned (.tuple #[])/\∃F',Srt w' B F' (ks.take (ks.countP (· < k))++k::ks.drop (ks.countP (· < k))) (vs.take (ks.countP (· < k))++v::vs.drop (ks.countP (· < k)))/\Chg F w w' ∧(∀g,F' g->F g∨w.heap.size<=g):=by
 obtain⟨kv,vv,h1,h2,h3,h4,h5,h6,h7⟩:=h
 have HL:Hid (vs.length=ks.length):=hl
 clear hl
 have hp:ks.countP (fun x=>decide (x<k))<=ks.length:=List.countP_le_length
 obtain⟨ka,kc,hkv⟩:=owns_val h2
 obtain⟨va,vc,hvv⟩:=owns_val h3
 have SO:=search_own kv ks k w h2 hs (by omega)
 rw[hf] at SO
 generalize ks.countP (fun x=>decide (x<k))=p at *
 have hBlt:B<w.heap.size:=(Array.getElem?_eq_some_iff.1 h1).1
 have c0:w.cell? ⟨B,0,none⟩=some (.slice ka ks.length kc):=by rw[cell_of_cells h1, ← hkv];rfl
 have S2:Hid _:=(fun (_:Nat)=>SO)
 clear SO
 have INFO:Hid _:=And.intro h1 (And.intro h2 (And.intro h3 (And.intro h4 (And.intro h6 (And.intro h7 (And.intro hkv hvv))))))
 rw[hkv] at S2
 clear h1 h2 h3 h4 h6 h7 hkv hvv hs hf
 go_enter Tryz.func177,Tryz.ntmps177
 go_wp2_with fail
 refine(S2.out 0).mono ?_
 rintro e w1 ⟨rfl,q,rfl⟩
 go_wp2_with fail
 obtain⟨h1,h2,h3,h4,h6,h7,hkv,hvv⟩:=INFO.out
 have bq:Below w.heap.size w (w.drewN q):=below_drewN (Below.refl _ _) q
 have b1:Below w.heap.size w ((w.drewN q).alloc (.cells #[.int .i64 k] 3)):=bq.alloc (Nat.le_refl _) _
 have INS:=insert_own kv ks p k w.heap.size ((w.drewN q).alloc (.cells #[.int .i64 k] 3)) (owns_below h2 b1) (heap_alloc_new (w.drewN q) _) (fun e=>Nat.lt_irrefl _ (owns_lt h2 e).1) hp (by omega)
 rw[hkv] at INS
 refine INS.mono ?_
 rintro e w2 ⟨kv',rfl,o2,c2,b2⟩
 rw[←hkv] at c2 b2
 have C2:Chg (fun g=>kv.ownBlock=some g) w w2:=(Chg.of_below b1).trans c2 (fun _ _ e=>e)
 have hkB:¬kv.ownBlock=some B:=fun e=>by
  obtain⟨_,cur,hc⟩:=owns_lt h2 e
  rw[h1] at hc;simp at hc
 have hB2:=row_chg h1 C2 hkB
 obtain⟨a2,q2,hv2⟩:=owns_val o2
 have hN2:w2.heap.size<=w2.heap.size:=Nat.le_refl _
 have d0:w2.cell? ⟨B,0,none⟩=some (.slice ka ks.length kc):=by rw[cell_of_cells hB2, ← hkv];rfl
 have d1:w2.cell? ⟨B,1,none⟩=some (.slice va vs.length vc):=by rw[cell_of_cells hB2, ← hvv];rfl
 have f0:w2.frozen? ⟨B,0,none⟩=false:=frozen_of_cells hB2
 have f1:w2.frozen? ⟨B,1,none⟩=false:=frozen_of_cells hB2
 have hvk:∀g,vv.ownBlock=some g->¬kv.ownBlock=some g:=fun g hg hk=>h4 g hk hg
 have O3:w2.ownsRow 0 3 1 vv vs.length (vs.map (Value.int .i64)):=owns_chg h3 C2 hvk
 have hvB:vv.ownBlock≠some B:=fun e=>by
  obtain⟨_,cur,hc⟩:=owns_lt h3 e
  rw[h1] at hc;simp at hc
 have hsz2:=C2.size
 have I2:Hid _:=And.intro hv2 (And.intro o2 (And.intro C2 (And.intro b2 (And.intro hB2 (And.intro O3 hvB)))))
 rw[hv2]
 clear hv2 o2 C2 b2 hB2 O3 hvB c2 INS b1 bq hkB hvk c0 h1 h2 h3 h4 h6 h7 hkv hvv
 go_wp2_with fail
 obtain⟨hv2,o2,C2,b2,hB2,O3,hvB⟩:=I2.out
 obtain⟨h1,h2,h3,h4,h6,h7,hkv,hvv⟩:=INFO.out
 have cB:Chg (fun g=>g=B) w2 (w2.setCell ⟨B,0,none⟩ (.slice a2 (ks.length+1) q2)):=Chg.setCell (F:=fun g=>g=B) (Chg.refl _ _) (fun _=>rfl) _
 have O4:(w2.setCell ⟨B,0,none⟩ (.slice a2 (ks.length+1) q2)).ownsRow 0 3 1 vv vs.length (vs.map (Value.int .i64)):=owns_chg O3 cB (fun g hg e=>hvB (e ▸ hg))
 have b3:Below (w2.setCell ⟨B,0,none⟩ (.slice a2 (ks.length+1) q2)).heap.size (w2.setCell ⟨B,0,none⟩ (.slice a2 (ks.length+1) q2)) ((w2.setCell ⟨B,0,none⟩ (.slice a2 (ks.length+1) q2)).alloc (.cells #[.int .i64 v] 3)):=(Below.refl _ _).alloc (Nat.le_refl _) _
 have hsz3:(w2.setCell ⟨B,0,none⟩ (.slice a2 (ks.length+1) q2)).heap.size=w2.heap.size:=by simp
 have hnew:((w2.setCell ⟨B,0,none⟩ (.slice a2 (ks.length+1) q2)).alloc (.cells #[.int .i64 v] 3)).heap[w2.heap.size]? =some (.cells #[.int .i64 v] 3 (0,0)):=by
  rw[←hsz3];exact heap_alloc_new _ _
 have INS:=insert_own vv vs p v w2.heap.size ((w2.setCell ⟨B,0,none⟩ (.slice a2 (ks.length+1) q2)).alloc (.cells #[.int .i64 v] 3)) (owns_below O4 b3) hnew (fun e=>Nat.lt_irrefl _ (owns_lt O3 e).1) (by rw[HL.out];exact hp) (by rw[HL.out];omega)
 rw[hvv] at INS
 refine INS.mono ?_
 rintro e w4 ⟨vv',rfl,o4,c4,b4⟩
 rw[←hvv] at c4 b4
 have C4:Chg (fun g=>vv.ownBlock=some g) (w2.setCell ⟨B,0,none⟩ kv') w4:=by rw[hv2];exact(Chg.of_below b3).trans c4 (fun _ _ e=>e)
 have hB3:(w2.setCell ⟨B,0,none⟩ kv').heap[B]? =some (.cells #[kv',vv] 190 (0,0)):=by
  rw[heap_setCell_same w2 B 0 _ 190 kv' hB2];rfl
 have hB4:=row_chg hB3 C4 hvB
 obtain⟨a4,q4,hv4⟩:=owns_val o4
 have e1:w4.cell? ⟨B,1,none⟩=some (.slice va vs.length vc):=by rw[cell_of_cells hB4, ← hvv];rfl
 have g1:w4.frozen? ⟨B,1,none⟩=false:=frozen_of_cells hB4
 have hlenk:(ks.take p++k::ks.drop p).length=ks.length+1:=by simp;omega
 have hlenv:(vs.take p++v::vs.drop p).length=vs.length+1:=by have:=HL.out;simp;omega
 rw[←hlenk] at o2
 rw[←hlenv] at o4
 have hw1:w.heap.size<=((w.drewN q).alloc (.cells #[.int .i64 k] 3)).heap.size:=by simp
 have FIN:Hid _:=And.intro hv4 (Srt.ins (F:=F) h1 h3 h4 h5 h6 h7 o2 C2 b2 hw1 hB2 o4 C4 b4 (by simp))
 rw[hv4]
 clear hv4 o4 C4 b4 hB4 hB3 c4 INS hnew hsz3 b3 O4 cB h1 h2 h3 h4 h6 h7 hkv hvv hv2 o2 C2 b2 hB2 O3 hvB hlenk hlenv hw1
 go_wp2
 obtain⟨hv4,F',r1,r2,r3⟩:=FIN.out
 rw[hv4] at r1 r2
 go_end0
 exact⟨rfl,F',r1,r2,r3⟩

def getS (ks vs:List Int) (k:Int):Int × Bool:=if ks.contains k then (vs.getD (ks.countP (· < k)) 0,true) else (0,false)

theorem get_any (B:Nat) (F:Nat->Prop) (ks vs:List Int) (k:Int) (w:World) (h:Srt w B F ks vs) (hs:ks.Pairwise (· <= ·)) (hl:vs.length=ks.length) (hbig:ks.length<=1048576) :
  Calls Tryz.prog 180 #[.pointer (some ⟨B,0,none⟩), .int .i64 k] w fun e w' =>e= .returned (.tuple #[.int .i64 (getS ks vs k).1, .bool (getS ks vs k).2])/\∃q,w' =w.drewN q:=by
 obtain⟨kv,vv,h1,h2,h3,h4,h5,h6,h7⟩:=h
 obtain⟨ka,kc,hkv⟩:=owns_val h2
 have c0:w.cell? ⟨B,0,none⟩=some kv:=by rw[cell_of_cells h1];rfl
 have c1:w.cell? ⟨B,1,none⟩=some vv:=by rw[cell_of_cells h1];rfl
 have SO:=search_own kv ks k w h2 hs (by omega)
 cases hf:ks.contains k
 ·have G:Hid (getS ks vs k=(0,false)):=by show getS ks vs k=_;rw[getS,hf];rfl
  rw[hf] at SO
  rw[hkv] at c0 SO
  have S2:Hid _:=(fun (_:Nat)=>SO)
  clear SO h1 h2 h3 h4 h5 h6 h7 hkv hs hl hf c1
  generalize ks.countP (fun x=>decide (x<k))=p at *
  go_enter Tryz.func180,Tryz.ntmps180
  go_wp2_with fail
  refine(S2.out 0).mono ?_
  rintro e w1 ⟨rfl,q,rfl⟩
  go_wp2
  go_ret2
  rw[G.out]
  exact⟨rfl,q,rfl⟩
 ·have hp:ks.countP (fun x=>decide (x<k))<ks.length:=found_lt hf
  have G:Hid (getS ks vs k=(vs.getD (ks.countP (· < k)) 0,true)):=by show getS ks vs k=_;rw[getS,hf];rfl
  obtain⟨g,cap,hvv,d0,d1,hle,hmx⟩:=owns_at h3 (p:=ks.countP (fun x=>decide (x<k))) (by omega)
  have hp2:ks.countP (fun x=>decide (x<k))<vs.length:=by omega
  rw[hf] at SO
  rw[hkv] at c0 SO
  rw[hvv] at c1
  have S2:Hid _:=(fun (_:Nat)=>SO)
  clear SO h1 h2 h3 h4 h5 h6 h7 hkv hvv hs hl hf d1
  unfold maxLen at hmx
  generalize ks.countP (fun x=>decide (x<k))=p at *
  generalize vs.getD p 0=y at *
  go_enter Tryz.func180,Tryz.ntmps180
  go_wp2_with fail
  refine(S2.out 0).mono ?_
  rintro e w1 ⟨rfl,q,rfl⟩
  go_wp2
  go_ret2
  rw[G.out]
  exact⟨rfl,q,rfl⟩
end
section
open Go.RowKit

theorem flatP_cons (p:Int × Int) (l:List (Int × Int)):flatP (p::l)= .int .i64 p.1:: .int .i64 p.2::flatP l:=rfl
theorem flatP_set (l:List (Int × Int)) (a b:Int):∀i,i<l.length->((flatP l).set (i*2) (.int .i64 a)).set (i*2+1) (.int .i64 b)=flatP (l.set i (a,b)):=by
 induction l with
 |nil=>intro i h;simp at h
 |cons p l ih=>
  intro i h
  cases i with
  |zero=>simp[flatP_cons]
  |succ i=>
   have:=ih i (by simpa using h)
   rw[flatP_cons,List.set_cons_succ,flatP_cons,show(i+1)*2=i*2+1+1 by omega,List.set_cons_succ,List.set_cons_succ,List.set_cons_succ,List.set_cons_succ,this]

def marksP (k:Int) (n:Nat):List (Int × Int):=(List.range n).map fun (i:Nat)=>(k+2*i,k+2*i+1)
theorem marksP_length (k:Int) (n:Nat):(marksP k n).length=n:=by simp[marksP]
theorem marksP_succ (k:Int) (n:Nat):marksP k (n+1)=marksP k n++[(k+2*n,k+2*n+1)]:=by simp[marksP,List.range_succ]
theorem marksP_at (k:Int) (n i:Nat) (h:i<n):kOf (marksP k n) i=k+2*i/\vOf (marksP k n) i=k+2*i+1:=by
 simp[marksP,kOf,vOf,List.getD,h]
def midP (k:Int) (l:List (Int × Int)) (i:Nat):List (Int × Int):=marksP k i++l.drop i
theorem midP_length (k:Int) (l:List (Int × Int)) (i:Nat) (h:i<=l.length):(midP k l i).length=l.length:=by simp[midP,marksP_length];omega
theorem midP_zero (k:Int) (l:List (Int × Int)):midP k l 0=l:=by simp[midP,marksP]
theorem midP_full (k:Int) (l:List (Int × Int)):midP k l l.length=marksP k l.length:=by simp[midP]
theorem midP_step (k:Int) (l:List (Int × Int)) (i:Nat) (h:i<l.length):(midP k l i).set i (k+2*i,k+2*i+1)=midP k l (i+1):=by
 rw[midP,midP,marksP_succ,List.drop_eq_getElem_cons h,List.set_append_right _ _ (by rw[marksP_length];omega),marksP_length,Nat.sub_self,List.set_cons_zero]
 simp

theorem markPairS_any (v:Value) (l:List (Int × Int)) (k:Int) (w:World) (h:w.ownsRow 0 108 2 v l.length (flatP l)) (hn:l.length<=4194304) (hk0:0<=k) (hk1:k<=4194304) :
  Calls Tryz.prog 23 #[v, .int .i64 k] w fun e w' =>e= .returned (.int .i64 (k+2*l.length))/\w'.ownsRow 0 108 2 v l.length (flatP (marksP k l.length))/\Chg (fun g=>v.ownBlock=some g) w w' :=by
 obtain⟨a,cap,hv⟩:=owns_val h
 have hcap:cap<=maxLen:=by
  obtain⟨_,⟨e,_⟩|⟨g,cap',cur,e,_,_,_,hc,_⟩⟩:=h
  ·rw[hv] at e;simp at e;rw[e.2.2];exact Nat.zero_le _
  ·rw[hv] at e;simp at e;rw[e.2];exact hc
 unfold maxLen at hcap
 have OW:Hid (w.ownsRow 0 108 2 v l.length (flatP l)):=h
 clear h
 rw[hv] at OW ⊢
 clear hv
 go_enter Tryz.func23,Tryz.ntmps23
 go_wp2
 go_loopw [1,5] (fun kk i wr=>∃j:Nat,j<=l.length/\i= .int .i64 j/\kk= .int .i64 (k+2*j)/\wr.ownsRow 0 108 2 (.slice a l.length cap) l.length (flatP (midP k l j))/\Chg (fun g=>(Value.slice a l.length cap).ownBlock=some g) w wr)
  (fun _ i _=>l.length-(intOf i).toNat)
 case atStart=>exact⟨0,Nat.zero_le _,rfl,by simp,by rw[midP_zero];exact OW.out,Chg.refl _ _⟩
 case round=>
  obtain⟨j,hj,rfl,rfl,hown,hch⟩:=hrel
  by_cases hlt:j<l.length
  ·have hex:∃g,a=some ⟨g,0,none⟩:=by
    obtain⟨_,⟨e,e2⟩|⟨g,cap',cur,e,_⟩⟩:=hown
    ·omega
    ·simp at e;exact⟨g,e.1⟩
   obtain⟨g,rfl⟩:=hex
   have hml:(midP k l j).length=l.length:=midP_length k l j hj
   have hat:=flatP_at (midP k l j) j (by omega)
   have e0:=(hown.cellAt (j*2) (by omega)).trans hat.1
   have e1:=(hown.cellAt (j*2+1) (by omega)).trans hat.2
   have f0:=hown.frozenAt (j*2)
   have f1:=hown.frozenAt (j*2+1)
   have st:=(hown.stored (j*2) (.int .i64 (k+2*j))).1
   have st2:=(st.stored (j*2+1) (.int .i64 (k+2*j+1))).1
   rw[flatP_set _ _ _ j (by omega),midP_step k l j hlt] at st2
   have hch2:Chg (fun g' =>(Value.slice (some ⟨g,0,none⟩) l.length cap).ownBlock=some g') w ((wr.setCell ⟨g,j*2,none⟩ (.int .i64 (k+2*j))).setCell ⟨g,j*2+1,none⟩ (.int .i64 (k+2*j+1))):=
    (hch.setAt g _ rfl _).setAt g _ rfl _
   generalize kOf (midP k l j) j=x0 at *
   generalize vOf (midP k l j) j=x1 at *
   have ST:Hid _:=And.intro st2 hch2
   clear st st2 hch2 hown hch hml hat OW
   have hb0:0<=k+2*(j:Int):=by omega
   have hb1:k+2*(j:Int)<=100000000:=by omega
   go_wp2
   go_roundw
   case rel=>exact⟨j+1,by omega,by go_num,by go_num,ST.out.1,ST.out.2⟩
   case measure=>simp[intOf];omega
  ·have hjl:j=l.length:=by omega
   subst hjl
   go_wp2
   go_ret
   rw[midP_full] at hown
   exact⟨rfl,hown,hch⟩

theorem heldPairS_any (v:Value) (n:Nat) (k:Int) (w:World) (h:Row w v n (flatP (marksP k n))) (hn:n<=4194304) (hk0:0<=k) (hk1:k<=4194304) :
  Calls Tryz.prog 62 #[v, .int .i64 k] w fun e w' =>e= .returned (.int .i64 (k+2*n))/\w' =w:=by
 have h' :Row w v (marksP k n).length (flatP (marksP k n)):=by rw[marksP_length];exact h
 obtain⟨a,b,off,cap,rfl,hcap,hmax,ha,hk,hv⟩:=h'.pairs
 rw[marksP_length] at *
 unfold maxLen at hmax
 clear h h'
 go_enter Tryz.func62,Tryz.ntmps62
 go_wp2
 go_loop [1,5] (fun kk i=>∃j:Nat,j<=n/\i= .int .i64 j/\kk= .int .i64 (k+2*j)) (fun _ i=>n-(intOf i).toNat)
 case atStart=>exact⟨0,Nat.zero_le _,rfl,by simp⟩
 case round=>
  obtain⟨j,hj,rfl,rfl⟩:=hrel
  by_cases hlt:j<n
  ·have hal:=ha (by omega)
   subst hal
   have d0:w.cell? ⟨b,off+j*2,none⟩=some (.int .i64 (k+2*j)):=by rw[hk j hlt,(marksP_at k n j hlt).1]
   have d1:w.cell? ⟨b,off+j*2+1,none⟩=some (.int .i64 (k+2*j+1)):=by rw[hv j hlt,(marksP_at k n j hlt).2]
   clear hk hv
   have hb0:0<=k+2*(j:Int):=by omega
   have hb1:k+2*(j:Int)<=100000000:=by omega
   go_wp2
   go_round
   case rel=>exact⟨j+1,by omega,by go_num,by go_num⟩
   case measure=>simp[intOf];omega
  ·have hjl:j=n:=by omega
   subst hjl
   go_wp2
   go_ret
   exact⟨rfl,rfl⟩
end
section
def getP:List (Int × Int)->Int->Int × Bool
 |[],_=>(0,false)
 |p::l,k=>if p.1=k then (p.2,true) else getP l k

theorem getP_hit {l:List (Int × Int)} {x:Int}:∀ {i:Nat},i<l.length->(∀j,j<i->kOf l j≠x)->kOf l i=x->getP l x=(vOf l i,true):=by
 induction l with
 |nil=>intro i h;simp at h
 |cons p l ih=>
  intro i h hall hx
  cases i with
  |zero=>
   simp only[kOf,List.getD_cons_zero] at hx
   simp[getP,hx,vOf]
  |succ i=>
   have h0:=hall 0 (by omega)
   simp only[kOf,List.getD_cons_zero] at h0
   rw[getP,if_neg h0,ih (by simpa using h) (fun j hj=>by have:=hall (j+1) (by omega);simpa[kOf] using this) (by simpa[kOf] using hx)]
   simp[vOf]
theorem getP_none {l:List (Int × Int)} {x:Int} (hall:∀j,j<l.length->kOf l j≠x):getP l x=(0,false):=by
 induction l with
 |nil=>rfl
 |cons p l ih=>
  have h0:=hall 0 (by simp)
  simp only[kOf,List.getD_cons_zero] at h0
  rw[getP,if_neg h0]
  exact ih (fun j hj=>by have:=hall (j+1) (by simpa using hj);simpa[kOf] using this)
end
end Go.Proofs.YtcmofojechfccaaGreat
