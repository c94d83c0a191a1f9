/-
  The generic sorted map of chapter 1 at ints: its three methods, by contracts.
  The laws' own functions that write marks into a list of pairs, and look for them.
  MapGet as a plain function.
  Maps as ascending lists of pairs: putting, deleting, getting; plain mathematics.
  Lists of messages as rows of cells; the laws' own functions on them.
-/
import Derived.Test.YtnakaabnjelffaaGreatOfInject1
import Derived.Lib.RowBridge
namespace Go.Proofs.YtnakaabnjelffaaGreat
set_option maxRecDepth 100000
set_option maxHeartbeats 8000000
section
open Go.RowKit

theorem L4 (v:Value) (zs:List Int) (i:Nat) (w:World) (ho:w.ownsRow 0 3 1 v zs.length (zs.map (Value.int .i64))) (hi:i<zs.length) :
  Calls Tryz.prog 129 #[v, .int .i64 i, .int .i64 (i+1:Nat)] w fun e w'=>
   ∃v',e= .returned v' ∧w'.ownsRow 0 3 1 v' (zs.length-1) ((zs.take i++zs.drop (i+1)).map (Value.int .i64))/\Chg (fun g=>v.ownBlock=some g) w w' ∧v'.ownBlock=v.ownBlock:=by
 obtain⟨hl,h|⟨g,cap,cur,rfl,hg,hh,hn,hcap,hsz,htake⟩⟩:=ho
 ·obtain⟨_,h0⟩:=h;omega
 ·simp only[Nat.mul_one] at hsz htake
  have hH:Go.Sort.Holds (Value.int .i64) w g 0 zs.toArray:=by
   intro j hj;have hj' :j<zs.length:=by simpa using hj
   refine⟨?_,AH hh⟩
   have e:(zs.map (Value.int .i64))[j]? =some (.int .i64 zs[j]):=by simp[hj']
   rw[←htake,List.getElem?_take,if_pos hj'] at e
   rw[Nat.zero_add,Af hh, ← Array.getElem?_toList,e]
   simp[hj']
  have hcap' :=hcap
  unfold maxLen at hcap';refine(Tryz.slices_Delete_int g 0 cap i (i+1) zs w hH hn (by omega) (by omega) (by omega)).mono ?_
  rintro e w' ⟨rfl,q,rfl⟩
  have hlen:(zs.take i++zs.drop (i+1)++List.replicate (i+1-i) 0).length=zs.length:=by simp;omega
  rw[Go.Lib.putRow_eq_setCells (Value.int .i64) w g 0 zs.toArray _ q hH (by simpa using hlen)]
  have h1:=Bv g 3 ((zs.take i++zs.drop (i+1)++List.replicate (i+1-i) 0).map (Value.int .i64)) 0 (w.drewN q) cur hh
  rw[show zs.length-(i+1-i)=zs.length-1 by omega]
  refine⟨_,rfl,Is h1 (by omega) hcap (by rw[Fx];exact hsz) ?_ (by simp;omega),Chg.setCells (F:=fun k=>(Value.slice (some ⟨g,0,none⟩) zs.length cap).ownBlock=some k) (fun _=>rfl) _ _ _ ((Chg.refl _ _).drewN q),rfl⟩
  rw[DQ _ _ _ (by rw[List.length_map,hlen];omega),List.take_zero,List.nil_append,List.map_append,List.append_assoc,Gq (by simp;omega)]

theorem Gh (v:Value) (zs:List Int) (x:Int) (w:World) (ho:w.ownsRow 0 3 1 v zs.length (zs.map (Value.int .i64))) (hs:zs.Pairwise (· <= ·)) (hbig:zs.length<=1099511627776) :
  Calls Tryz.prog 127 #[v, .int .i64 x] w fun e w' =>e= .returned (.tuple #[.int .i64 (zs.countP (· < x):Nat), .bool (zs.contains x)])/\∃q,w' =w.drewN q:=by
 obtain⟨hl,h|⟨g,cap,cur,rfl,hg,hh,hn,hcap,hsz,htake⟩⟩:=ho
 ·obtain⟨rfl,h0⟩:=h
  have hz:zs=[]:=List.length_eq_zero_iff.1 h0
  subst hz;refine(Tryz.slices_BinarySearch_int_empty none 0 x w).mono ?_
  rintro e w' ⟨rfl,rfl⟩
  exact⟨rfl,0,rfl⟩
 ·simp only[Nat.mul_one] at hsz htake
  have:=Tryz.slices_BinarySearch_int g 0 zs.length cap zs x w (Nat.le_refl _) (by omega) (fun j hj=>by
   have e:(zs.map (Value.int .i64))[j]? =some (.int .i64 zs[j]):=by simp[hj]
   rw[←htake,List.getElem?_take,if_pos hj] at e
   rw[Nat.zero_add,Af hh, ← Array.getElem?_toList,e]
   simp[List.getD,hj]) (by rw[List.take_of_length_le (Nat.le_refl _)];exact hs)
  rw[List.take_of_length_le (Nat.le_refl _)] at this
  exact this

def Srt (w:World) (B:Nat) (F:Nat->Prop) (ks vs:List Int):Prop:=
 ∃kv vv,w.heap[B]? =some (.cells #[kv,vv] 114 (0,0))/\w.ownsRow 0 3 1 kv ks.length (ks.map (Value.int .i64))/\w.ownsRow 0 3 1 vv vs.length (vs.map (Value.int .i64))∧
  (∀g,kv.ownBlock=some g->vv.ownBlock≠some g)/\F B/\(∀g,kv.ownBlock=some g->F g)/\(∀g,vv.ownBlock=some g->F g)

theorem Srt.chg {w w' :World} {B:Nat} {F G:Nat->Prop} {ks vs:List Int} (h:Srt w B F ks vs) (hc:Chg G w w') (hd:∀g,F g->¬G g):Srt w' B F ks vs:=by
 obtain⟨kv,vv,h1,h2,h3,h4,h5,h6,h7⟩:=h
 exact⟨kv,vv,Bf h1 hc (hd _ h5),AQ h2 hc (fun g hg=>hd _ (h6 g hg)),AQ h3 hc (fun g hg=>hd _ (h7 g hg)),h4,h5,h6,h7⟩

theorem Bu {w:World} {base e size n:Nat} {v:Value} {xs:List Value} (h:w.ownsRow base e size v n xs):∃a cap,v= .slice a n cap:=by
 obtain⟨_,⟨rfl,rfl⟩|⟨g,cap,cur,rfl,_⟩⟩:=h
 ·exact⟨none,0,rfl⟩
 ·exact⟨_,_,rfl⟩
theorem Eg {w:World} {base e size n:Nat} {v:Value} {xs:List Value} (h:w.ownsRow base e size v n xs) {g:Nat} (hg:v.ownBlock=some g):g<w.heap.size/\∃cur,w.heap[g]? =some (.cells cur e (0,0)):=by
 obtain⟨_,⟨rfl,rfl⟩|⟨g',cap,cur,rfl,_,hh,_⟩⟩:=h
 ·simp[Value.ownBlock] at hg
 ·simp only[Value.ownBlock,Option.some.injEq] at hg
  subst hg;exact⟨(Array.getElem?_eq_some_iff.1 hh).1,cur,hh⟩

theorem Ni {ks:List Int} {k:Int} (h:ks.contains k=true):ks.countP (fun x=>decide (x<k))<ks.length:=by
 have hm:k∈ks:=by simpa using h
 rcases Nat.lt_or_ge (ks.countP (fun x=>decide (x<k))) ks.length with h1|h1
 ·exact h1
 ·have:=List.countP_eq_length.1 (Nat.le_antisymm List.countP_le_length h1) k hm
  simp at this

def Yw (ks:List Int) (k:Int):List Int:=if ks.contains k then ks else ks.take (ks.countP (· < k))++k::ks.drop (ks.countP (· < k))
def Yx (ks vs:List Int) (k v:Int):List Int:=if ks.contains k then vs.set (ks.countP (· < k)) v else vs.take (ks.countP (· < k))++v::vs.drop (ks.countP (· < k))

theorem Ui {w:World} {v:Value} {zs:List Int} (h:w.ownsRow 0 3 1 v zs.length (zs.map (Value.int .i64))) {p:Nat} (hp:p<zs.length) :
  ∃g cap,v= .slice (some ⟨g,0,none⟩) zs.length cap/\w.cell? ⟨g,p,none⟩=some (.int .i64 (zs.getD p 0))/\w.frozen? ⟨g,p,none⟩=false/\zs.length<=cap/\cap<=maxLen:=by
 have h0:=h
 obtain⟨_,⟨rfl,h0⟩|⟨g,cap,cur,rfl,_,hh,hn,hcap,_⟩⟩:=h
 ·omega
 ·refine⟨g,cap,rfl, ?_,AH hh,hn,hcap⟩
  rw[h0.cellAt p (by omega)]
  simp[hp,List.getD]

theorem Srt.setVal {w:World} {B:Nat} {F:Nat->Prop} {ks vs:List Int} {g p cap:Nat} {kv:Value} (v:Int) (h1:w.heap[B]? =some (.cells #[kv, .slice (some ⟨g,0,none⟩) vs.length cap] 114 (0,0)))
  (h2:w.ownsRow 0 3 1 kv ks.length (ks.map (Value.int .i64))) (h3:w.ownsRow 0 3 1 (.slice (some ⟨g,0,none⟩) vs.length cap) vs.length (vs.map (Value.int .i64))) (h4:∀g',kv.ownBlock=some g' ->some g≠some g') (h5:F B) (h6:∀g,kv.ownBlock=some g->F g) (h7:F g) (q:Nat) :
  Srt ((w.drewN q).setCell ⟨g,p,none⟩ (.int .i64 v)) B F ks (vs.set p v)/\Chg F w ((w.drewN q).setCell ⟨g,p,none⟩ (.int .i64 v)):=by
 have hgB:B≠g:=by
  intro e;obtain⟨_,cur,hc⟩:=Eg h3 (g:=g) rfl
  rw[←e,h1] at hc
  simp at hc
 have hs:=((AJ h3 (below_drewN (Below.refl _ _) q)).stored p (.int .i64 v)).1
 have hc0:Chg (fun k=>k=g) w ((w.drewN q).setCell ⟨g,p,none⟩ (.int .i64 v)):=Chg.setCell (F:=fun k=>k=g) ((Chg.refl _ _).drewN q) (fun _=>rfl) _
 have hc:Chg F w ((w.drewN q).setCell ⟨g,p,none⟩ (.int .i64 v)):=((Chg.refl _ _).drewN q).setCell (fun _=>h7) _
 refine⟨⟨kv, .slice (some ⟨g,0,none⟩) vs.length cap,Bf h1 hc0 hgB,AQ h2 hc0 (fun g' hg' e=>h4 g' hg' (congrArg some e.symm)), ?_,fun g' hg' e=>h4 g' hg' e,h5,h6,fun g' hg' => ?_⟩,hc⟩
 ·rw[List.length_set,List.map_set]
  exact hs
 ·cases hg';exact h7

theorem Va (B:Nat) (F:Nat->Prop) (ks vs:List Int) (k v:Int) (w:World) (h:Srt w B F ks vs) (hs:ks.Pairwise (· <= ·)) (hl:vs.length=ks.length) (hbig:ks.length<=1048576) (hf:ks.contains k=true) :
  Calls Tryz.prog 110 #[.pointer (some ⟨B,0,none⟩), .int .i64 k, .int .i64 v] w fun e w'=>
   e= .returned (.tuple #[])/\∃F',Srt w' B F' ks (vs.set (ks.countP (· < k)) v)/\Chg F w w' ∧(∀g,F' g->F g∨w.heap.size<=g):=by
 obtain⟨kv,vv,h1,h2,h3,h4,h5,h6,h7⟩:=h
 have hp:ks.countP (fun x=>decide (x<k))<ks.length:=Ni hf
 obtain⟨ka,kc,hkv⟩:=Bu h2
 obtain⟨g,cap,hvv,d0,d1,hle,hmx⟩:=Ui h3 (p:=ks.countP (fun x=>decide (x<k))) (by omega)
 have c0:w.cell? ⟨B,0,none⟩=some kv:=by rw[Af h1];rfl
 have c1:w.cell? ⟨B,1,none⟩=some vv:=by rw[Af h1];rfl
 have SO:=Gh kv ks k w h2 hs (by omega)
 rw[hvv] at h1 h3 h4 h7 c1
 have FIN:Hid (∀q,Srt ((w.drewN q).setCell ⟨g,ks.countP (fun x=>decide (x<k)),none⟩ (.int .i64 v)) B F ks (vs.set (ks.countP (fun x=>decide (x<k))) v)/\Chg F w ((w.drewN q).setCell ⟨g,ks.countP (fun x=>decide (x<k)),none⟩ (.int .i64 v))):=
  fun q=>Srt.setVal v h1 h2 h3 h4 h5 h6 (h7 g rfl) q
 rw[hkv] at c0 SO
 rw[hf] at SO
 have hp2:ks.countP (fun x=>decide (x<k))<vs.length:=by omega
 clear h1 h2 h3 h4 h5 h6 h7 hkv hvv hs hl hf;unfold maxLen at hmx;generalize ks.countP (fun x=>decide (x<k))=p at *
 have S1:=(fun (x:Nat)=>SO)
 clear SO;have S2:Hid _:=S1
 clear S1;go_enter Tryz.func110,Tryz.ntmps110
 go_wp2_with fail;refine(S2.out 0).mono ?_
 rintro e w1 ⟨rfl,q,rfl⟩
 go_wp2;exact bodyPost_ret (v:= .tuple #[]) (by simp[results,Tryz.results110,go_sem]) rfl ⟨rfl,F,(FIN.out q).1,(FIN.out q).2,fun _ hg=>Or.inl hg⟩

theorem Srt.ins {w w2 w4:World} {B:Nat} {F:Nat->Prop} {vs ks' vs' :List Int} {kv vv kv' vv' :Value} {N1 N2:Nat}
  (h1:w.heap[B]? =some (.cells #[kv,vv] 114 (0,0))) (h3:w.ownsRow 0 3 1 vv vs.length (vs.map (Value.int .i64))) (h4:∀g,kv.ownBlock=some g->vv.ownBlock≠some g) (h5:F B) (h6:∀g,kv.ownBlock=some g->F g) (h7:∀g,vv.ownBlock=some g->F g)
  (o2:w2.ownsRow 0 3 1 kv' ks'.length (ks'.map (Value.int .i64))) (c2:Chg (fun g=>kv.ownBlock=some g) w w2) (b2:kv'.ownBlock=kv.ownBlock∨kv'.ownBlock=some N1) (hN1:w.heap.size<=N1)
  (hB2:w2.heap[B]? =some (.cells #[kv,vv] 114 (0,0)))
  (o4:w4.ownsRow 0 3 1 vv' vs'.length (vs'.map (Value.int .i64))) (c4:Chg (fun g=>vv.ownBlock=some g) (w2.setCell ⟨B,0,none⟩ kv') w4) (b4:vv'.ownBlock=vv.ownBlock∨vv'.ownBlock=some N2) (hN2:w2.heap.size<=N2) :
  ∃F',Srt (w4.setCell ⟨B,1,none⟩ vv') B F' ks' vs' ∧Chg F w (w4.setCell ⟨B,1,none⟩ vv')/\(∀g,F' g->F g∨w.heap.size<=g):=by
 have hBlt:B<w.heap.size:=(Array.getElem?_eq_some_iff.1 h1).1
 have hvB:vv.ownBlock≠some B:=fun e=>by
  obtain⟨_,cur,hc⟩:=Eg h3 e
  rw[h1] at hc;simp at hc
 have hkB' :kv'.ownBlock≠some B:=fun e=>by
  obtain⟨_,cur,hc⟩:=Eg o2 e
  rw[hB2] at hc;simp at hc
 have hvlt:∀g,vv.ownBlock=some g->g<w.heap.size:=fun g hg=>(Eg h3 hg).1
 have hklt' :∀g,kv'.ownBlock=some g->g<w2.heap.size:=fun g hg=>(Eg o2 hg).1
 have hB3:(w2.setCell ⟨B,0,none⟩ kv').heap[B]? =some (.cells #[kv',vv] 114 (0,0)):=by
  rw[heap_setCell_same w2 B 0 _ 114 kv' hB2];rfl
 have hB4:w4.heap[B]? =some (.cells #[kv',vv] 114 (0,0)):=Bf hB3 c4 hvB
 have hB5:(w4.setCell ⟨B,1,none⟩ vv').heap[B]? =some (.cells #[kv',vv'] 114 (0,0)):=by
  rw[heap_setCell_same w4 B 1 _ 114 vv' hB4];rfl
 have hkv4:∀g,kv'.ownBlock=some g->vv.ownBlock≠some g:=by
  intro g hg hv;rcases b2 with e|e
  ·exact h4 g (e ▸ hg) hv
  ·have:=hvlt g hv
   rw[e] at hg;cases hg;omega
 have cB:∀(W:World) (j:Nat) (u:Value),Chg (fun g=>g=B) W (W.setCell ⟨B,j,none⟩ u):=fun W j u=>Chg.setCell (F:=fun g=>g=B) (Chg.refl _ _) (fun _=>rfl) _
 have o2' :(w4.setCell ⟨B,1,none⟩ vv').ownsRow 0 3 1 kv' ks'.length (ks'.map (Value.int .i64)):=
  AQ (AQ (AQ o2 (cB _ 0 kv') (fun g hg e=>hkB' (e ▸ hg))) c4 hkv4) (cB _ 1 vv') (fun g hg e=>hkB' (e ▸ hg))
 have hvB' :vv'.ownBlock≠some B:=fun e=>by
  obtain⟨_,cur,hc⟩:=Eg o4 e
  rw[hB4] at hc;simp at hc
 have o4' :(w4.setCell ⟨B,1,none⟩ vv').ownsRow 0 3 1 vv' vs'.length (vs'.map (Value.int .i64)):=AQ o4 (cB _ 1 vv') (fun g hg e=>hvB' (e ▸ hg))
 have hsz2:=c2.size
 refine⟨fun g=>g=B∨kv'.ownBlock=some g∨vv'.ownBlock=some g,⟨kv',vv',hB5,o2',o4', ?_,Or.inl rfl,fun g hg=>Or.inr (Or.inl hg),fun g hg=>Or.inr (Or.inr hg)⟩, ?_, ?_⟩
 ·intro g hg hv;rcases b4 with e|e
  ·exact hkv4 g hg (e ▸ hv)
  ·have:=hklt' g hg
   rw[e] at hv;cases hv;omega
 ·have e1:Chg F w w2:=c2.mono (fun g _ hg=>h6 g hg)
  have e2:Chg F w (w2.setCell ⟨B,0,none⟩ kv'):=e1.setCell (fun _=>h5) _
  have e3:Chg F w w4:=e2.trans c4 (fun g _ hg=>h7 g hg)
  exact e3.setCell (fun _=>h5) _
 ·rintro g (rfl|hg|hg)
  ·exact Or.inl h5
  ·rcases b2 with e|e
   ·exact Or.inl (h6 g (e ▸ hg))
   ·rw[e] at hg;cases hg;exact Or.inr hN1
  ·rcases b4 with e|e
   ·exact Or.inl (h7 g (e ▸ hg))
   ·rw[e] at hg;cases hg;exact Or.inr (by omega)

theorem XG (B:Nat) (F:Nat->Prop) (ks vs:List Int) (k v:Int) (w:World) (h:Srt w B F ks vs) (hs:ks.Pairwise (· <= ·)) (hl:vs.length=ks.length) (hbig:ks.length<=1048576) (hf:ks.contains k=false) :
  Calls Tryz.prog 110 #[.pointer (some ⟨B,0,none⟩), .int .i64 k, .int .i64 v] w fun e w'=>
   e= .returned (.tuple #[])/\∃F',Srt w' B F' (ks.take (ks.countP (· < k))++k::ks.drop (ks.countP (· < k))) (vs.take (ks.countP (· < k))++v::vs.drop (ks.countP (· < k)))/\Chg F w w' ∧(∀g,F' g->F g∨w.heap.size<=g):=by
 obtain⟨kv,vv,h1,h2,h3,h4,h5,h6,h7⟩:=h
 have HL:Hid (vs.length=ks.length):=hl
 clear hl;have hp:ks.countP (fun x=>decide (x<k))<=ks.length:=List.countP_le_length
 obtain⟨ka,kc,hkv⟩:=Bu h2
 obtain⟨va,vc,hvv⟩:=Bu h3
 have SO:=Gh kv ks k w h2 hs (by omega)
 rw[hf] at SO
 generalize ks.countP (fun x=>decide (x<k))=p at *
 have hBlt:B<w.heap.size:=(Array.getElem?_eq_some_iff.1 h1).1
 have c0:w.cell? ⟨B,0,none⟩=some (.slice ka ks.length kc):=by rw[Af h1, ← hkv];rfl
 have S2:Hid _:=(fun (_:Nat)=>SO)
 clear SO;have INFO:Hid _:=And.intro h1 (And.intro h2 (And.intro h3 (And.intro h4 (And.intro h6 (And.intro h7 (And.intro hkv hvv))))))
 rw[hkv] at S2
 clear h1 h2 h3 h4 h6 h7 hkv hvv hs hf;go_enter Tryz.func110,Tryz.ntmps110
 go_wp2_with fail;refine(S2.out 0).mono ?_
 rintro e w1 ⟨rfl,q,rfl⟩
 go_wp2_with fail;obtain⟨h1,h2,h3,h4,h6,h7,hkv,hvv⟩:=INFO.out
 have bq:Below w.heap.size w (w.drewN q):=below_drewN (Below.refl _ _) q
 have b1:Below w.heap.size w ((w.drewN q).alloc (.cells #[.int .i64 k] 3)):=bq.alloc (Nat.le_refl _) _
 have INS:=Mz kv ks p k w.heap.size ((w.drewN q).alloc (.cells #[.int .i64 k] 3)) (AJ h2 b1) (heap_alloc_new (w.drewN q) _) (fun e=>Nat.lt_irrefl _ (Eg h2 e).1) hp (by omega)
 rw[hkv] at INS
 refine INS.mono ?_
 rintro e w2 ⟨kv',rfl,o2,c2,b2⟩
 rw[←hkv] at c2 b2
 have C2:Chg (fun g=>kv.ownBlock=some g) w w2:=(Chg.of_below b1).trans c2 (fun _ _ e=>e)
 have hkB:¬kv.ownBlock=some B:=fun e=>by
  obtain⟨_,cur,hc⟩:=Eg h2 e
  rw[h1] at hc;simp at hc
 have hB2:=Bf h1 C2 hkB
 obtain⟨a2,q2,hv2⟩:=Bu o2
 have hN2:w2.heap.size<=w2.heap.size:=Nat.le_refl _
 have d0:w2.cell? ⟨B,0,none⟩=some (.slice ka ks.length kc):=by rw[Af hB2, ← hkv];rfl
 have d1:w2.cell? ⟨B,1,none⟩=some (.slice va vs.length vc):=by rw[Af hB2, ← hvv];rfl
 have f0:w2.frozen? ⟨B,0,none⟩=false:=AH hB2
 have f1:w2.frozen? ⟨B,1,none⟩=false:=AH hB2
 have hvk:∀g,vv.ownBlock=some g->¬kv.ownBlock=some g:=fun g hg hk=>h4 g hk hg
 have O3:w2.ownsRow 0 3 1 vv vs.length (vs.map (Value.int .i64)):=AQ h3 C2 hvk
 have hvB:vv.ownBlock≠some B:=fun e=>by
  obtain⟨_,cur,hc⟩:=Eg h3 e
  rw[h1] at hc;simp at hc
 have hsz2:=C2.size
 have I2:Hid _:=And.intro hv2 (And.intro o2 (And.intro C2 (And.intro b2 (And.intro hB2 (And.intro O3 hvB)))))
 rw[hv2]
 clear hv2 o2 C2 b2 hB2 O3 hvB c2 INS b1 bq hkB hvk c0 h1 h2 h3 h4 h6 h7 hkv hvv;go_wp2_with fail;obtain⟨hv2,o2,C2,b2,hB2,O3,hvB⟩:=I2.out
 obtain⟨h1,h2,h3,h4,h6,h7,hkv,hvv⟩:=INFO.out
 have cB:Chg (fun g=>g=B) w2 (w2.setCell ⟨B,0,none⟩ (.slice a2 (ks.length+1) q2)):=Chg.setCell (F:=fun g=>g=B) (Chg.refl _ _) (fun _=>rfl) _
 have O4:(w2.setCell ⟨B,0,none⟩ (.slice a2 (ks.length+1) q2)).ownsRow 0 3 1 vv vs.length (vs.map (Value.int .i64)):=AQ O3 cB (fun g hg e=>hvB (e ▸ hg))
 have b3:Below (w2.setCell ⟨B,0,none⟩ (.slice a2 (ks.length+1) q2)).heap.size (w2.setCell ⟨B,0,none⟩ (.slice a2 (ks.length+1) q2)) ((w2.setCell ⟨B,0,none⟩ (.slice a2 (ks.length+1) q2)).alloc (.cells #[.int .i64 v] 3)):=(Below.refl _ _).alloc (Nat.le_refl _) _
 have hsz3:(w2.setCell ⟨B,0,none⟩ (.slice a2 (ks.length+1) q2)).heap.size=w2.heap.size:=by simp
 have DY:((w2.setCell ⟨B,0,none⟩ (.slice a2 (ks.length+1) q2)).alloc (.cells #[.int .i64 v] 3)).heap[w2.heap.size]? =some (.cells #[.int .i64 v] 3 (0,0)):=by
  rw[←hsz3];exact heap_alloc_new _ _
 have INS:=Mz vv vs p v w2.heap.size ((w2.setCell ⟨B,0,none⟩ (.slice a2 (ks.length+1) q2)).alloc (.cells #[.int .i64 v] 3)) (AJ O4 b3) DY (fun e=>Nat.lt_irrefl _ (Eg O3 e).1) (by rw[HL.out];exact hp) (by rw[HL.out];omega)
 rw[hvv] at INS
 refine INS.mono ?_
 rintro e w4 ⟨vv',rfl,o4,c4,b4⟩
 rw[←hvv] at c4 b4
 have C4:Chg (fun g=>vv.ownBlock=some g) (w2.setCell ⟨B,0,none⟩ kv') w4:=by rw[hv2];exact(Chg.of_below b3).trans c4 (fun _ _ e=>e)
 have hB3:(w2.setCell ⟨B,0,none⟩ kv').heap[B]? =some (.cells #[kv',vv] 114 (0,0)):=by
  rw[heap_setCell_same w2 B 0 _ 114 kv' hB2];rfl
 have hB4:=Bf hB3 C4 hvB
 obtain⟨a4,q4,hv4⟩:=Bu o4
 have e1:w4.cell? ⟨B,1,none⟩=some (.slice va vs.length vc):=by rw[Af hB4, ← hvv];rfl
 have g1:w4.frozen? ⟨B,1,none⟩=false:=AH hB4
 have hlenk:(ks.take p++k::ks.drop p).length=ks.length+1:=by simp;omega
 have hlenv:(vs.take p++v::vs.drop p).length=vs.length+1:=by have:=HL.out;simp;omega
 rw[←hlenk] at o2
 rw[←hlenv] at o4
 have hw1:w.heap.size<=((w.drewN q).alloc (.cells #[.int .i64 k] 3)).heap.size:=by simp
 have FIN:Hid _:=And.intro hv4 (Srt.ins (F:=F) h1 h3 h4 h5 h6 h7 o2 C2 b2 hw1 hB2 o4 C4 b4 (by simp))
 rw[hv4]
 clear hv4 o4 C4 b4 hB4 hB3 c4 INS DY hsz3 b3 O4 cB h1 h2 h3 h4 h6 h7 hkv hvv hv2 o2 C2 b2 hB2 O3 hvB hlenk hlenv hw1;go_wp2;obtain⟨hv4,F',r1,r2,r3⟩:=FIN.out
 rw[hv4] at r1 r2
 go_end0
 exact⟨rfl,F',r1,r2,r3⟩

def PU (ks vs:List Int) (k:Int):Int × Bool:=if ks.contains k then (vs.getD (ks.countP (· < k)) 0,true) else (0,false)

theorem XO (B:Nat) (F:Nat->Prop) (ks vs:List Int) (k:Int) (w:World) (h:Srt w B F ks vs) (hs:ks.Pairwise (· <= ·)) (hl:vs.length=ks.length) (hbig:ks.length<=1048576) :
  Calls Tryz.prog 113 #[.pointer (some ⟨B,0,none⟩), .int .i64 k] w fun e w' =>e= .returned (.tuple #[.int .i64 (PU ks vs k).1, .bool (PU ks vs k).2])/\∃q,w' =w.drewN q:=by
 obtain⟨kv,vv,h1,h2,h3,h4,h5,h6,h7⟩:=h
 obtain⟨ka,kc,hkv⟩:=Bu h2
 have c0:w.cell? ⟨B,0,none⟩=some kv:=by rw[Af h1];rfl
 have c1:w.cell? ⟨B,1,none⟩=some vv:=by rw[Af h1];rfl
 have SO:=Gh kv ks k w h2 hs (by omega)
 cases hf:ks.contains k
 ·have G:Hid (PU ks vs k=(0,false)):=by show PU ks vs k=_;rw[PU,hf];rfl
  rw[hf] at SO
  rw[hkv] at c0 SO
  have S2:Hid _:=(fun (_:Nat)=>SO)
  clear SO h1 h2 h3 h4 h5 h6 h7 hkv hs hl hf c1;generalize ks.countP (fun x=>decide (x<k))=p at *
  go_enter Tryz.func113,Tryz.ntmps113
  go_wp2_with fail;refine(S2.out 0).mono ?_
  rintro e w1 ⟨rfl,q,rfl⟩
  go_wp2;go_ret2
  rw[G.out]
  exact⟨rfl,q,rfl⟩
 ·have hp:ks.countP (fun x=>decide (x<k))<ks.length:=Ni hf
  have G:Hid (PU ks vs k=(vs.getD (ks.countP (· < k)) 0,true)):=by show PU ks vs k=_;rw[PU,hf];rfl
  obtain⟨g,cap,hvv,d0,d1,hle,hmx⟩:=Ui h3 (p:=ks.countP (fun x=>decide (x<k))) (by omega)
  have hp2:ks.countP (fun x=>decide (x<k))<vs.length:=by omega
  rw[hf] at SO
  rw[hkv] at c0 SO
  rw[hvv] at c1
  have S2:Hid _:=(fun (_:Nat)=>SO)
  clear SO h1 h2 h3 h4 h5 h6 h7 hkv hvv hs hl hf d1;unfold maxLen at hmx;generalize ks.countP (fun x=>decide (x<k))=p at *
  generalize vs.getD p 0=y at *
  go_enter Tryz.func113,Tryz.ntmps113
  go_wp2_with fail;refine(S2.out 0).mono ?_
  rintro e w1 ⟨rfl,q,rfl⟩
  go_wp2;go_ret2
  rw[G.out]
  exact⟨rfl,q,rfl⟩
end
section
open Go.RowKit

def Yo (k:Int) (n:Nat):List (Int × Int):=(List.range n).map fun (i:Nat)=>(k+2*i,k+2*i+1)
def Zn (k:Int) (l:List (Int × Int)) (i:Nat):List (Int × Int):=Yo k i++l.drop i
end
section
def AE:List (Int × Int)->Int->Int × Bool
 |[],_=>(0,false)
 |p::l,k=>if p.1=k then (p.2,true) else AE l k

theorem WK {l:List (Int × Int)} {x:Int}:∀ {i:Nat},i<l.length->(∀j,j<i->kOf l j≠x)->kOf l i=x->AE l x=(vOf l i,true):=by
 induction l with
 |nil=>intro i h;simp at h
 |cons p l ih=>
  intro i h hall hx
  cases i with
  |zero=>
   simp only[kOf,List.getD_cons_zero] at hx
   simp[AE,hx,vOf]
  |succ i=>
   have h0:=hall 0 (by omega)
   simp only[kOf,List.getD_cons_zero] at h0
   rw[AE,if_neg h0,ih (by simpa using h) (fun j hj=>by have:=hall (j+1) (by omega);simpa[kOf] using this) (by simpa[kOf] using hx)]
   simp[vOf]
theorem UV {l:List (Int × Int)} {x:Int} (hall:∀j,j<l.length->kOf l j≠x):AE l x=(0,false):=by
 induction l with
 |nil=>rfl
 |cons p l ih=>
  have h0:=hall 0 (by simp)
  simp only[kOf,List.getD_cons_zero] at h0
  rw[AE,if_neg h0]
  exact ih (fun j hj=>by have:=hall (j+1) (by simpa using hj);simpa[kOf] using this)
end
section
abbrev PL:=List (Int × Int)
def Bn (l:PL):List Int:=l.map (·.1)
def Fd (l:PL):List Int:=l.map (·.2)
theorem Dc (l:PL):(Bn l).length=l.length:=by simp[Bn]
theorem EO (l:PL):(Fd l).length=l.length:=by simp[Fd]

def Asc (l:PL):Prop:=(Bn l).Pairwise (· < ·)
theorem Asc.le {l:PL} (h:Asc l):(Bn l).Pairwise (· <= ·):=h.imp (fun h=>Int.le_of_lt h)
theorem Asc.cons {p:Int × Int} {l:PL} (h:Asc (p::l)):(∀q∈l,p.1<q.1)/\Asc l:=by
 have:=List.pairwise_cons.1 (show(p.1::Bn l).Pairwise (· < ·) from h)
 exact⟨fun q hq=>this.1 q.1 (List.mem_map_of_mem hq),this.2⟩
def B9 (l:PL) (k v:Int):PL:=l.filter (fun p=>decide (p.1<k))++(k,v)::l.filter (fun p=>decide (k<p.1))
def Dh (l:PL) (k:Int):PL:=l.filter (fun p=>decide (p.1≠k))

theorem Fq {l:PL} {k:Int} (h:∀q∈l,k<q.1):l.filter (fun p=>decide (p.1<k))=[]/\l.filter (fun p=>decide (k<p.1))=l/\l.filter (fun p=>decide (p.1≠k))=l:=by
 refine⟨List.filter_eq_nil_iff.2 (fun q hq=> ?_),List.filter_eq_self.2 (fun q hq=> ?_),List.filter_eq_self.2 (fun q hq=> ?_)⟩
 ·have:=h q hq;simp;omega
 ·have:=h q hq;simp;omega
 ·have:=h q hq;simp;omega
theorem Iz {l:PL} {k:Int} (h:∀q∈l,k<q.1):(Bn l).countP (fun x=>decide (x<k))=0:=by
 rw[List.countP_eq_zero]
 intro a ha;obtain⟨q,hq,rfl⟩:=List.mem_map.1 ha
 have:=h q hq;simp;omega
theorem Rz {l:PL} {k:Int} (h:∀q∈l,k<q.1):(Bn l).contains k=false:=by
 rw[Bool.eq_false_iff]
 intro hc;have hm:k∈Bn l:=by simpa using hc
 obtain⟨q,hq,e⟩:=List.mem_map.1 hm
 have:=h q hq;omega

theorem Di (p:Int × Int) (l:PL):Bn (p::l)=p.1::Bn l:=rfl
theorem DH (p:Int × Int) (l:PL):Fd (p::l)=p.2::Fd l:=rfl

theorem EK (p:Int × Int) (l:PL) (k:Int):(Bn (p::l)).countP (fun x=>decide (x<k))=(Bn l).countP (fun x=>decide (x<k))+if p.1<k then 1 else 0:=by
 rw[Di,List.countP_cons];simp
theorem contains_cons (p:Int × Int) (l:PL) (k:Int):(Bn (p::l)).contains k=(decide (k=p.1)||(Bn l).contains k):=by
 rw[Di,List.contains_cons]
 congr 1

theorem MD {l:PL} (h:Asc l) {k v:Int} (hf:(Bn l).contains k=true):Bn (B9 l k v)=Bn l/\Fd (B9 l k v)=(Fd l).set ((Bn l).countP (fun x=>decide (x<k))) v:=by
 induction l with
 |nil=>simp[Bn] at hf
 |cons p l ih=>
  obtain⟨h1,h2⟩:=h.cons
  by_cases hlt:p.1<k
  ·have hf' :(Bn l).contains k=true:=by rw[contains_cons] at hf;simpa[show ¬k=p.1 by omega] using hf
   have:=ih h2 hf'
   have e:B9 (p::l) k v=p::B9 l k v:=by simp[B9,hlt,show ¬k<p.1 by omega]
   rw[e,EK,if_pos hlt,Di,Di,DH,DH,this.1,this.2]
   simp
  ·have hp:k=p.1:=by
    rw[contains_cons] at hf
    rcases Bool.or_eq_true _ _ ▸ hf with h' | h'
    ·simpa using h'
    ·have hm:k∈Bn l:=by simpa using h'
     obtain⟨q,hq,e⟩:=List.mem_map.1 hm
     have:=h1 q hq;omega
   have hg:∀q∈l,k<q.1:=fun q hq=>by rw[hp];exact h1 q hq
   obtain⟨f1,f2,_⟩:=Fq hg
   have e:B9 (p::l) k v=(k,v)::l:=by simp[B9,hlt,show ¬k<p.1 by omega,f1,f2]
   rw[e,EK,Iz hg,if_neg hlt]
   simp[Di,DH,hp]

theorem Ph {l:PL} (h:Asc l) {k v:Int} (hf:(Bn l).contains k=false) :
  Bn (B9 l k v)=(Bn l).take ((Bn l).countP (fun x=>decide (x<k)))++k::(Bn l).drop ((Bn l).countP (fun x=>decide (x<k)))∧
  Fd (B9 l k v)=(Fd l).take ((Bn l).countP (fun x=>decide (x<k)))++v::(Fd l).drop ((Bn l).countP (fun x=>decide (x<k))):=by
 induction l with
 |nil=>simp[Bn,Fd,B9]
 |cons p l ih=>
  obtain⟨h1,h2⟩:=h.cons
  rw[contains_cons,Bool.or_eq_false_iff] at hf
  have hne:¬k=p.1:=by simpa using hf.1
  by_cases hlt:p.1<k
  ·have:=ih h2 hf.2
   have e:B9 (p::l) k v=p::B9 l k v:=by simp[B9,hlt,show ¬k<p.1 by omega]
   rw[e,EK,if_pos hlt,Di,Di,DH,DH,this.1,this.2]
   simp
  ·have hg:∀q∈l,k<q.1:=fun q hq=>by have:=h1 q hq;omega
   obtain⟨f1,f2,_⟩:=Fq hg
   have e:B9 (p::l) k v=(k,v)::p::l:=by simp[B9,hlt,show k<p.1 by omega,f1,f2]
   rw[e,EK,Iz hg,if_neg hlt]
   simp[Di,DH]

theorem LH {l:PL} (h:Asc l) {k:Int} (hf:(Bn l).contains k=true) :
  Bn (Dh l k)=(Bn l).take ((Bn l).countP (fun x=>decide (x<k)))++(Bn l).drop ((Bn l).countP (fun x=>decide (x<k))+1)∧
  Fd (Dh l k)=(Fd l).take ((Bn l).countP (fun x=>decide (x<k)))++(Fd l).drop ((Bn l).countP (fun x=>decide (x<k))+1):=by
 induction l with
 |nil=>simp[Bn] at hf
 |cons p l ih=>
  obtain⟨h1,h2⟩:=h.cons
  by_cases hlt:p.1<k
  ·have hf' :(Bn l).contains k=true:=by rw[contains_cons] at hf;simpa[show ¬k=p.1 by omega] using hf
   have:=ih h2 hf'
   have e:Dh (p::l) k=p::Dh l k:=by simp[Dh,show ¬p.1=k by omega]
   rw[e,EK,if_pos hlt,Di,Di,DH,DH,this.1,this.2]
   simp
  ·have hp:k=p.1:=by
    rw[contains_cons] at hf
    rcases Bool.or_eq_true _ _ ▸ hf with h' | h'
    ·simpa using h'
    ·have hm:k∈Bn l:=by simpa using h'
     obtain⟨q,hq,e⟩:=List.mem_map.1 hm
     have:=h1 q hq;omega
   have hg:∀q∈l,k<q.1:=fun q hq=>by rw[hp];exact h1 q hq
   obtain⟨_,_,f3⟩:=Fq hg
   have e:Dh (p::l) k=l:=by rw[Dh,List.filter_cons_of_neg (by simp[hp]),f3]
   rw[e,EK,Iz hg,if_neg hlt]
   simp[Di,DH]

theorem W6 {l:PL} {k:Int} (hf:(Bn l).contains k=false):Dh l k=l:=by
 rw[Dh,List.filter_eq_self]
 intro q hq;simp only[ne_eq,decide_not,Bool.not_eq_eq_eq_not,Bool.not_true,decide_eq_false_iff_not]
 intro e;have:k∈Bn l:=List.mem_map.2 ⟨q,hq,e⟩
 rw[Bool.eq_false_iff] at hf
 exact hf (by simpa using this)

theorem WQ {l:PL} (h:Asc l) (k:Int):(if (Bn l).contains k then ((Fd l).getD ((Bn l).countP (fun x=>decide (x<k))) 0,true) else (0,false))=AE l k:=by
 induction l with
 |nil=>simp[Bn,AE]
 |cons p l ih=>
  obtain⟨h1,h2⟩:=h.cons
  have:=ih h2
  rw[contains_cons,EK,AE,DH]
  by_cases hlt:p.1<k
  ·rw[if_neg (show ¬p.1=k by omega),if_pos hlt, ← this]
   simp[show ¬k=p.1 by omega]
  ·by_cases he:p.1=k
   ·have hg:∀q∈l,k<q.1:=fun q hq=>by have:=h1 q hq;omega
    rw[Iz hg,if_neg hlt,if_pos he]
    simp[he.symm]
   ·have hg:∀q∈l,k<q.1:=fun q hq=>by have:=h1 q hq;omega
    rw[if_neg he, ← this,Rz hg]
    simp[show ¬k=p.1 by omega]

theorem Mq {l:PL} (h:Asc l) (k v:Int):Asc (B9 l k v):=by
 show(Bn (l.filter _++(k,v)::l.filter _)).Pairwise (· < ·)
 rw[Bn,List.map_append,List.map_cons]
 refine List.pairwise_append.2 ⟨?_,List.pairwise_cons.2 ⟨?_, ?_⟩, ?_⟩
 ·exact List.pairwise_map.2 ((List.pairwise_map.1 h).filter _)
 ·intro a ha;obtain⟨q,hq,rfl⟩:=List.mem_map.1 ha
  simpa using(List.mem_filter.1 hq).2
 ·exact List.pairwise_map.2 ((List.pairwise_map.1 h).filter _)
 ·intro a ha b hb;obtain⟨q,hq,rfl⟩:=List.mem_map.1 ha
  have h1:q.1<k:=by simpa using(List.mem_filter.1 hq).2
  rcases List.mem_cons.1 hb with rfl|hb
  ·exact h1
  ·obtain⟨r,hr,rfl⟩:=List.mem_map.1 hb
   have h2:k<r.1:=by simpa using(List.mem_filter.1 hr).2
   omega
theorem WG {l:PL} (h:Asc l) (k:Int):Asc (Dh l k):=List.pairwise_map.2 ((List.pairwise_map.1 h).filter _)

def Pu (p:Int × Int):Prop:=(0<=p.1/\p.1<=999)/\(-1000000000<=p.2/\p.2<=1000000000)
def CJ (l:PL):Prop:=Asc l/\∀p∈l,Pu p

theorem MJ {l:PL} {i:Nat}:FK l i=true↔Pu (kOf l i,vOf l i)/\(i=0∨kOf l (i-1)<kOf l i):=by
 simp[FK,Pu,inB,and_assoc]

theorem EJ (l:PL):Bo l=true↔CJ l:=by
 constructor
 ·intro h;have hat:∀i,i<l.length->FK l i=true:=fun i hi=>Ve h hi
  have hlt:∀j,j<l.length->∀i,i<j->kOf l i<kOf l j:=by
   intro j;induction j with
   |zero=>intro _ i hi;omega
   |succ j ih=>
    intro hj i hi;have h1:=(MJ.1 (hat (j+1) hj)).2
    have h2:kOf l j<kOf l (j+1):=by simpa using h1
    by_cases e:i=j
    ·subst e;exact h2
    ·have:=ih (by omega) i (by omega);omega
  have hk:∀i (hi:i<l.length),l[i]=(kOf l i,vOf l i):=fun i hi=>by simp[kOf,vOf,List.getD,hi]
  refine⟨?_, ?_⟩
  ·refine List.pairwise_map.2 (List.pairwise_iff_getElem.2 (fun i j hi hj hij=> ?_))
   rw[hk i hi,hk j hj]
   exact hlt j hj i hij
  ·intro p hp;obtain⟨i,hi,rfl⟩:=List.getElem_of_mem hp
   rw[hk i hi]
   exact(MJ.1 (hat i hi)).1
 ·rintro⟨h1,h2⟩
  have hk:∀i (hi:i<l.length),l[i]=(kOf l i,vOf l i):=fun i hi=>by simp[kOf,vOf,List.getD,hi]
  refine Ia (fun i hi=>MJ.2 ⟨?_, ?_⟩)
  ·rw[←hk i hi];exact h2 _ (List.getElem_mem hi)
  ·by_cases h0:i=0
   ·exact Or.inl h0
   ·right
    have:=List.pairwise_iff_getElem.1 (List.pairwise_map.1 h1) (i-1) i (by omega) hi (by omega)
    rw[hk i hi,hk (i-1) (by omega)] at this
    exact this

def Bg (x:Int):Int:=if x< -1000000000 then -1000000000 else if 1000000000<x then 1000000000 else x
theorem KQ (x:Int): -1000000000<=Bg x/\Bg x<=1000000000:=by unfold Bg;split<;>(try split)<;>omega

def doP (l:PL) (m:Int × Int × Int):PL:=
 if m.1=1 then B9 l m.2.1 m.2.2 else if m.1=2 then Dh l m.2.1 else if m.1=3 then B9 l m.2.1 (Bg ((AE l m.2.1).1+m.2.2)) else l
def doL (l:PL) (m:Int × Int × Int):PL:=if Bo l=true/\AK m.1 m.2.1 m.2.2=true then doP l m else l
def Cn (l:PL) (ms:List (Int × Int × Int)):PL:=ms.foldl doL l

theorem IA {l:PL} (h:CJ l) {k v:Int} (hk:0<=k/\k<=999) (hv: -1000000000<=v/\v<=1000000000):CJ (B9 l k v):=by
 refine⟨Mq h.1 k v,fun p hp=> ?_⟩
 rcases List.mem_append.1 hp with h1|h1
 ·exact h.2 p (List.mem_filter.1 h1).1
 ·rcases List.mem_cons.1 h1 with rfl|h2
  ·exact⟨hk,hv⟩
  ·exact h.2 p (List.mem_filter.1 h2).1
theorem UZ {l:PL} (h:CJ l) (k:Int):CJ (Dh l k):=⟨WG h.1 k,fun p hp=>h.2 p (List.mem_filter.1 hp).1⟩
theorem Lb (l:PL) (k v:Int):(B9 l k v).length<=l.length+1:=by
 have h:∀(l:PL),(l.filter (fun p=>decide (p.1<k))).length+(l.filter (fun p=>decide (k<p.1))).length<=l.length:=by
  intro l;induction l with
  |nil=>simp
  |cons p l ih=>
   by_cases h1:p.1<k
   ·have h2:¬k<p.1:=by omega
    simp[h1,h2];omega
   ·by_cases h2:k<p.1
    ·simp[h1,h2];omega
    ·simp[h1,h2];omega
 have:=h l
 simp[B9];omega
theorem KV (l:PL) (k:Int):(Dh l k).length<=l.length:=List.length_filter_le _ _

theorem CG {o k v:Int} (h:AK o k v=true):(1<=o/\o<=4)/\(0<=k/\k<=999)/\(-1000000000<=v/\v<=1000000000):=by
 simp only[AK,Bool.and_eq_true,Ey] at h
 exact⟨h.1,h.2.1,h.2.2.1⟩

theorem Nn {l:PL} (h:CJ l) {m:Int × Int × Int} (hm:AK m.1 m.2.1 m.2.2=true):CJ (doP l m):=by
 obtain⟨_,h2,h3⟩:=CG hm
 unfold doP;split
 ·exact IA h h2 h3
 ·split
  ·exact UZ h _
  ·split
   ·exact IA h h2 (KQ _)
   ·exact h
theorem Mi (l:PL) (m:Int × Int × Int):(doP l m).length<=l.length+1:=by
 unfold doP;split
 ·exact Lb _ _ _
 ·split
  ·have:=KV l m.2.1;omega
  ·split
   ·exact Lb _ _ _
   ·omega
theorem Sj (l:PL) (m:Int × Int × Int):(doL l m).length<=l.length+1:=by
 unfold doL;split
 ·exact Mi _ _
 ·omega
theorem Fy (l:PL) (ms:List (Int × Int × Int)):(Cn l ms).length<=l.length+ms.length:=by
 induction ms generalizing l with
 |nil=>simp[Cn]
 |cons m ms ih=>
  have h1:=ih (doL l m)
  have h2:=Sj l m
  simp only[Cn,List.foldl_cons,List.length_cons] at *
  omega
theorem St {l:PL} (h:Bo l=false) (m:Int × Int × Int):doL l m=l:=by simp[doL,h]
theorem Ro {l:PL} (h:Bo l=false) (ms:List (Int × Int × Int)):Cn l ms=l:=by
 induction ms with
 |nil=>rfl
 |cons m ms ih=>rw[Cn,List.foldl_cons,St h];exact ih
theorem Kc {l:PL} (h:CJ l) (m:Int × Int × Int):CJ (doL l m):=by
 unfold doL;split
 ·exact Nn h (by simp_all)
 ·exact h
theorem Kn {l:PL} (h:CJ l) (ms:List (Int × Int × Int)):CJ (Cn l ms):=by
 induction ms generalizing l with
 |nil=>exact h
 |cons m ms ih=>exact ih (Kc h m)
end
section
open Go.RowKit

abbrev ML:=List (Int × Int × Int)
def mO (l:ML) (i:Nat):Int:=(l.getD i (0,0,0)).1
def mK (l:ML) (i:Nat):Int:=(l.getD i (0,0,0)).2.1
def mV (l:ML) (i:Nat):Int:=(l.getD i (0,0,0)).2.2
theorem DV (l:ML) (i:Nat) (h:i<l.length):l[i]=(mO l i,mK l i,mV l i):=by simp[mO,mK,mV,List.getD,h]
theorem DZ (l:ML) (k:Nat) (hk:k<l.length):l.take (k+1)=l.take k++[(mO l k,mK l k,mV l k)]:=by
 rw[List.take_succ_eq_append_getElem hk,DV l k hk]

def Al (l:ML):List Value:=l.flatMap fun m=>[.int .i64 m.1, .int .i64 m.2.1, .int .i64 m.2.2]
theorem Ez (m:Int × Int × Int) (l:ML):Al (m::l)= .int .i64 m.1:: .int .i64 m.2.1:: .int .i64 m.2.2::Al l:=rfl
theorem Cc (l m:ML):Al (l++m)=Al l++Al m:=by simp[Al,List.flatMap_append]
theorem Dx (l:ML):(Al l).length=l.length*3:=by
 induction l with
 |nil=>rfl
 |cons a l ih=>rw[Ez];simp only[List.length_cons];omega
theorem Gm (l:ML):∀i,i<l.length->(Al l)[i*3]? =some (.int .i64 (mO l i))/\(Al l)[i*3+1]? =some (.int .i64 (mK l i))/\(Al l)[i*3+2]? =some (.int .i64 (mV l i)):=by
 induction l with
 |nil=>intro i h;simp at h
 |cons a l ih=>
  intro i h
  cases i with
  |zero=>simp[Ez,mO,mK,mV]
  |succ i=>
   have:=ih i (by simpa using h)
   have e1:(i+1)*3=i*3+1+1+1:=by omega
   have e2:(i+1)*3+1=(i*3+1)+1+1+1:=by omega
   have e3:(i+1)*3+2=(i*3+2)+1+1+1:=by omega
   rw[e3,e2,e1,Ez]
   simpa[mO,mK,mV] using this
theorem Vn (l:ML) (a b c:Int):∀i,i<l.length->(((Al l).set (i*3) (.int .i64 a)).set (i*3+1) (.int .i64 b)).set (i*3+2) (.int .i64 c)=Al (l.set i (a,b,c)):=by
 induction l with
 |nil=>intro i h;simp at h
 |cons p l ih=>
  intro i h
  cases i with
  |zero=>simp[Ez]
  |succ i=>
   have:=ih i (by simpa using h)
   rw[Ez,List.set_cons_succ,Ez,show(i+1)*3+2=(i*3+2)+1+1+1 by omega,show(i+1)*3=i*3+1+1+1 by omega]
   simp only[List.set_cons_succ]
   rw[this]

theorem Row.msgs {w:World} {v:Value} {l:ML} (h:Row w v l.length (Al l)) :
  ∃(a:Option Addr) (b off cap:Nat),v= .slice a l.length cap/\l.length<=cap/\cap<=maxLen/\(0<l.length->a=some ⟨b,off,none⟩)∧
   (∀i,i<l.length->w.cell? ⟨b,off+i*3,none⟩=some (.int .i64 (mO l i)))/\(∀i,i<l.length->w.cell? ⟨b,off+i*3+1,none⟩=some (.int .i64 (mK l i)))/\(∀i,i<l.length->w.cell? ⟨b,off+i*3+2,none⟩=some (.int .i64 (mV l i))):=by
 obtain⟨a,b,off,cap,h1,h2,h3,h4,h5,_⟩:=h
 exact⟨a,b,off,cap,h1,h2,h3,h4,fun i hi=>h5 _ _ (Gm l i hi).1,fun i hi=>h5 _ _ (Gm l i hi).2.1,fun i hi=>h5 _ _ (Gm l i hi).2.2⟩

def Za (a b c a' b' c' :Int):Bool:=decide (a=a' ∧b=b' ∧c=c')
theorem Tryz.info31:(Tryz.prog.info? 31).map (fun i=>(i.zero,i.size,i.bytes))=some (some (.agg #[.int .i64 0, .int .i64 0, .int .i64 0]),3,24):=by kernel_rfl

def Y6 (l:ML) (k:Nat):ML:=l.take k++List.replicate (l.length-k) (0,0,0)
end
end Go.Proofs.YtnakaabnjelffaaGreat
