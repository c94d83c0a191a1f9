/-
  What an argument that is a tree holds: opened once into plain data.
-/
import Derived.Test.YtcmofojechfccaaGreatOfDrain52
import Derived.Test.YtcmofojechfccaaGreatOfDrain5
namespace Go.Proofs.YtcmofojechfccaaGreat
set_option maxRecDepth 100000
set_option maxHeartbeats 8000000
section
open Go.ChangeShapes Go.WideShapes Go.ChangeAt Go.RowKit Go.Deep Go.Joins

theorem Tryz.cells27:Tryz.prog.cellsOf 27=5:=by kernel_rfl
theorem Tryz.cells22:Tryz.prog.cellsOf 22=1:=by kernel_rfl
theorem Tryz.cells23:Tryz.prog.cellsOf 23=1:=by kernel_rfl
theorem Tryz.cells24:Tryz.prog.cellsOf 24=1:=by kernel_rfl
theorem Tryz.cells25:Tryz.prog.cellsOf 25=1:=by kernel_rfl
theorem Tryz.cells4:Tryz.prog.cellsOf 4=1:=by kernel_rfl

theorem arg_pairsS {H:Type} {enc:TypeId × Value->H} {W:World} {v:Value} {d:DataW H} {p:List MemPlace}
  (hv:∃(a0:Option Addr) (len cap:Nat),v= .slice a0 len cap) (h:DataW.Trod enc Tryz.prog W 0 (fun _=>true) true 22 v d p):∃l:List (Int × Int),Row W v l.length (flatP l):=by
 obtain⟨a0,len,cap,rfl⟩:=hv
 obtain⟨fuel,hf⟩:=h
 rcases open_slice_pairs Tryz.underlying22 Tryz.underlying111 Tryz.cells111 rfl rfl Tryz.cells3 Tryz.cells3 hf with⟨hcs,_⟩|⟨a,len',cap',m,n,V0,V1,D0,D1,P0,P1,hcs,_,hl,hm,hmm,_,hx⟩
 ·simp[Value.cells] at hcs
  obtain⟨rfl,rfl,rfl⟩:=hcs
  exact⟨[],none,0,0,0,rfl,Nat.le_refl _,Nat.zero_le _,fun h=>absurd h (Nat.lt_irrefl _),fun j u hj=>by simp[flatP] at hj,fun _=>rfl⟩
 ·simp[Value.cells] at hcs
  obtain⟨rfl,rfl,rfl⟩:=hcs
  simp only[if_true] at hmm
  have hk:∀i,i<len->∃x:Int × Int,W.cell? (a.add (i*2))=some (.int .i64 x.1)/\W.cell? (a.add (i*2+1))=some (.int .i64 x.2):=by
   intro i hi
   obtain⟨c0,c1,t0,t1⟩:=hx i (by omega)
   obtain⟨x,e0,_,_⟩:=DataW.trod_int Tryz.underlying3 t0
   obtain⟨y,e1,_,_⟩:=DataW.trod_int Tryz.underlying3 t1
   simp at e0 e1
   exact⟨(x,y),by rw[c0,e0],by rw[c1,e1]⟩
  obtain⟨f,hf'⟩:=choose_lt hk
  obtain⟨b,off,spot⟩:=a
  have hl0:((List.range len).map f).length=len:=by simp
  refine⟨(List.range len).map f,some ⟨b,off,spot⟩,b,off,cap,by rw[hl0],by rw[hl0];exact hl,hm,fun h=> ?_, ?_,fun h=>by cases h⟩
  ·rw[hl0] at h
   have hspot:spot=none:=by simpa[Addr.add] using World.cell?_spot (hf' 0 h).1
   rw[hspot]
  ·intro j u hj
   have hjl:=(List.getElem?_eq_some_iff.1 hj).1
   rw[flatP_length,hl0] at hjl
   have hi:j/2<len:=by omega
   have hspot:spot=none:=by simpa[Addr.add] using World.cell?_spot (hf' 0 (by omega)).1
   subst hspot
   have hat:=flatP_at ((List.range len).map f) (j/2) (by rw[hl0];exact hi)
   have hk0:kOf ((List.range len).map f) (j/2)=(f (j/2)).1:=by simp[kOf,List.getD,hi]
   have hv0:vOf ((List.range len).map f) (j/2)=(f (j/2)).2:=by simp[vOf,List.getD,hi]
   rw[hk0,hv0] at hat
   have hc:=hf' (j/2) hi
   rw[add_plain,add_plain] at hc
   rcases Nat.mod_two_eq_zero_or_one j with h0|h1
   ·have e:j=j/2*2:=by omega
    rw[←e] at hat hc
    rw[hj] at hat
    rw[hc.1];exact hat.1.symm
   ·have e:j=j/2*2+1:=by omega
    rw[←e] at hat hc
    rw[hj] at hat
    rw[hc.2];exact hat.2.symm

theorem arg_msgsS {H:Type} {enc:TypeId × Value->H} {W:World} {v:Value} {d:DataW H} {p:List MemPlace}
  (hv:∃(a0:Option Addr) (len cap:Nat),v= .slice a0 len cap) (h:DataW.Trod enc Tryz.prog W 0 (fun _=>true) true 25 v d p):∃l:ML,Row W v l.length (flatM l):=by
 obtain⟨a0,len,cap,rfl⟩:=hv
 obtain⟨fuel,hf⟩:=h
 rcases open_slice Tryz.underlying25 hf with⟨hcs,_⟩|⟨a,len',cap',m,n,D,Pl,hcs,_,hl,hm,hmm,_,hx⟩
 ·simp[Value.cells] at hcs
  obtain⟨rfl,rfl,rfl⟩:=hcs
  exact⟨[],none,0,0,0,rfl,Nat.le_refl _,Nat.zero_le _,fun h=>absurd h (Nat.lt_irrefl _),fun j u hj=>by simp[flatM] at hj,fun _=>rfl⟩
 ·simp[Value.cells] at hcs
  obtain⟨rfl,rfl,rfl⟩:=hcs
  simp only[if_true] at hmm
  have hk:∀i,i<len->∃x:Int × Int × Int,W.cell? (a.add (i*3))=some (.int .i64 x.1)/\W.cell? (a.add (i*3+1))=some (.int .i64 x.2.1)/\W.cell? (a.add (i*3+2))=some (.int .i64 x.2.2):=by
   intro i hi
   obtain⟨cs',h1,h2⟩:=hx i (by omega)
   rw[Tryz.cells29] at h1
   obtain⟨_,hlen,hcell⟩:=World.cells?_some h1
   obtain⟨y0,y1,y2,n',hx',_,t0,t1,t2⟩:=trod_struct3 Tryz.underlying29 h2
   have e0:=hcell 0 (by omega)
   have e1:=hcell 1 (by omega)
   have e2:=hcell 2 (by omega)
   rw[add_add] at e0 e1 e2
   match cs',hlen with
   |[c0,c1,c2],_=>
    simp[Tryz.cells3] at t0 t1 t2
    obtain⟨x0,q0,_,_⟩:=DataW.trod_int Tryz.underlying3 t0
    obtain⟨x1,q1,_,_⟩:=DataW.trod_int Tryz.underlying3 t1
    obtain⟨x2,q2,_,_⟩:=DataW.trod_int Tryz.underlying3 t2
    simp at q0 q1 q2
    exact⟨(x0,x1,x2),by rw[←q0];simpa using e0,by rw[←q1];simpa using e1,by rw[←q2];simpa using e2⟩
  obtain⟨f,hf'⟩:=choose_lt hk
  obtain⟨b,off,spot⟩:=a
  have hl0:((List.range len).map f).length=len:=by simp
  have hsp:0<len->spot=none:=fun h=>by simpa[Addr.add] using World.cell?_spot (hf' 0 h).1
  refine⟨(List.range len).map f,some ⟨b,off,spot⟩,b,off,cap,by rw[hl0],by rw[hl0];exact hl,hm,fun h=> ?_, ?_,fun h=>by cases h⟩
  ·rw[hl0] at h
   rw[hsp h]
  ·refine flatM_all _ (fun j=>W.cell? ⟨b,off+j,none⟩) (fun i hi=> ?_)
   rw[hl0] at hi
   have hspot:=hsp (by omega)
   subst hspot
   have hc:=hf' i hi
   rw[add_plain,add_plain,add_plain] at hc
   have a1:mO ((List.range len).map f) i=(f i).1:=by simp[mO,List.getD,hi]
   have a2:mK ((List.range len).map f) i=(f i).2.1:=by simp[mK,List.getD,hi]
   have a3:mV ((List.range len).map f) i=(f i).2.2:=by simp[mV,List.getD,hi]
   rw[a1,a2,a3]
   exact hc

theorem arg_intsS {H:Type} {enc:TypeId × Value->H} {W:World} {fuel:Nat} {c:Value} {y:DataW H × List MemPlace}
  (h:DataW.trod enc Tryz.prog W 0 (fun _=>true) true fuel 23 [c]=some y):∃l:List Int,Row W c l.length (flatI l):=by
 rcases open_slice1 Tryz.underlying23 Tryz.cells3 h with⟨hcs,_⟩|⟨a,len,cap,m,n,V,D,Pl,hcs,_,hl,hm,hmm,_,hx⟩
 ·simp at hcs
  subst hcs
  exact⟨[],none,0,0,0,rfl,Nat.le_refl _,Nat.zero_le _,fun h=>absurd h (Nat.lt_irrefl _),fun j u hj=>by simp[flatI] at hj,fun _=>rfl⟩
 ·simp at hcs
  subst hcs
  simp only[if_true] at hmm
  have hk:∀i,i<len->∃x:Int,W.cell? (a.add i)=some (.int .i64 x):=by
   intro i hi
   obtain⟨c0,t0⟩:=hx i (by omega)
   obtain⟨x,e0,_,_⟩:=DataW.trod_int Tryz.underlying3 t0
   simp at e0
   exact⟨x,by rw[c0,e0]⟩
  obtain⟨f,hf'⟩:=choose_lt hk
  obtain⟨b,off,spot⟩:=a
  have hl0:((List.range len).map f).length=len:=by simp
  have hsp:0<len->spot=none:=fun h=>by simpa[Addr.add] using World.cell?_spot (hf' 0 h)
  refine⟨(List.range len).map f,some ⟨b,off,spot⟩,b,off,cap,by rw[hl0],by rw[hl0];exact hl,hm,fun h=> ?_, ?_,fun h=>by cases h⟩
  ·rw[hl0] at h
   rw[hsp h]
  ·intro j u hj
   have hjl:=(List.getElem?_eq_some_iff.1 hj).1
   rw[flatI_length,hl0] at hjl
   have hspot:=hsp (by omega)
   subst hspot
   have hc:=hf' j hjl
   rw[add_plain] at hc
   rw[flatI_at _ _ (by rw[hl0];exact hjl)] at hj
   have e:iAt ((List.range len).map f) j=f j:=by simp[iAt,List.getD,hjl]
   rw[e] at hj
   rw[hc,hj]

theorem slice_of {H:Type} {enc:TypeId × Value->H} {W:World} {fuel:Nat} {t e:TypeId} {c:Value} {y:DataW H × List MemPlace} (ht:Tryz.prog.underlying t=some (.slice e))
  (h:DataW.trod enc Tryz.prog W 0 (fun _=>true) true fuel t [c]=some y):∃(a0:Option Addr) (len cap:Nat),c= .slice a0 len cap:=by
 rcases open_slice ht h with⟨hcs,_⟩|⟨a,len,cap,m,n,D,Pl,hcs,_⟩
 ·simp at hcs;exact⟨_,_,_,hcs⟩
 ·simp at hcs;exact⟨_,_,_,hcs⟩

theorem trees_all (l:List TV) (g:Nat->Option Value) (h:∀i,i<l.length->g (i*5)=some (.bool (tvAt l i).lf)/\g (i*5+1)=some (tvAt l i).p/\g (i*5+2)=some (tvAt l i).c/\g (i*5+3)=some (tvAt l i).k/\g (i*5+4)=some (tvAt l i).b) :
  ∀j u,(flatT l)[j]? =some u->g j=some u:=by
 intro j u hj
 have hjl:=(List.getElem?_eq_some_iff.1 hj).1
 rw[flatT_length] at hjl
 have hi:j/5<l.length:=by omega
 have hat:=flatT_at l (j/5) hi
 have hc:=h (j/5) hi
 rcases(show j%5=0∨j%5=1∨j%5=2∨j%5=3∨j%5=4 by omega) with h0|h0|h0|h0|h0
 ·have e:j/5*5=j:=by omega
  rw[e] at hat hc
  rw[hc.1, ← hat.1,hj]
 ·have e:j/5*5+1=j:=by omega
  rw[e] at hat hc
  rw[hc.2.1, ← hat.2.1,hj]
 ·have e:j/5*5+2=j:=by omega
  rw[e] at hat hc
  rw[hc.2.2.1, ← hat.2.2.1,hj]
 ·have e:j/5*5+3=j:=by omega
  rw[e] at hat hc
  rw[hc.2.2.2.1, ← hat.2.2.2.1,hj]
 ·have e:j/5*5+4=j:=by omega
  rw[e] at hat hc
  rw[hc.2.2.2.2, ← hat.2.2.2.2,hj]

theorem tree_of_trod {H:Type} {enc:TypeId × Value->H} {W:World}:∀(fuel:Nat) (cs:List Value) (y:DataW H × List MemPlace),
  DataW.trod enc Tryz.prog W 0 (fun _=>true) true fuel 27 cs=some y->∃(x:TV) (T:Tr),cs=x.cells/\TreeAt fuel W x T:=by
 intro fuel
 induction fuel using Nat.strongRecOn with
 |ind fuel ih=>
 intro cs y h
 obtain⟨xs,n,rfl, -,hl,hlen,hf⟩:=DataW.trod_struct Tryz.underlying27 h
 rw[Tryz.cells27] at hl
 match cs,hl with
 |[c0,c1,c2,c3,c4],_=>
 match xs,hlen with
 |[y0,y1,y2,y3,y4],_=>
 have t0:=hf 0 _ rfl
 have t1:=hf 1 _ rfl
 have t2:=hf 2 _ rfl
 have t3:=hf 3 _ rfl
 have t4:=hf 4 _ rfl
 simp[Tryz.cells4,Tryz.cells22,Tryz.cells23,Tryz.cells24,Tryz.cells25] at t0 t1 t2 t3 t4
 obtain⟨bl,e0,_⟩:=DataW.trod_bool Tryz.underlying4 t0
 simp at e0
 subst e0
 obtain⟨l1,r1⟩:=arg_pairsS (d:=y1.1) (p:=y1.2) (slice_of Tryz.underlying22 t1) ⟨n,by
  obtain⟨_,_,_,e⟩:=slice_of Tryz.underlying22 t1
  subst e
  exact t1⟩
 obtain⟨l2,r2⟩:=arg_intsS t2
 obtain⟨l4,r4⟩:=arg_msgsS (d:=y4.1) (p:=y4.2) (slice_of Tryz.underlying25 t4) ⟨n,by
  obtain⟨_,_,_,e⟩:=slice_of Tryz.underlying25 t4
  subst e
  exact t4⟩
 have hk:∃ts:List Tr,TreesAt n W c3 ts:=by
  rcases DataW.trod_slice Tryz.underlying24 t3 with⟨hcs,_⟩|⟨a,len,cap,elems,rest,n',rfl,hcs,_,_,hl',hm,hlen',hel,_,_⟩
  ·simp at hcs
   subst hcs
   exact⟨[],[],rfl,⟨none,0,0,0,rfl,Nat.le_refl _,Nat.zero_le _,fun h=>absurd h (Nat.lt_irrefl _),fun j u hj=>by simp[flatT] at hj,fun _=>rfl⟩,fun i hi=>absurd hi (Nat.not_lt_zero _)⟩
  ·simp at hcs
   subst hcs
   have hx:∀i,i<len->∃q:TV × Tr,W.cells? 0 (a.add (i*5)) 5=some q.1.cells/\TreeAt n' W q.1 q.2:=by
    intro i hi
    have key:=hel i hi
    rw[Tryz.cells27,List.getElem?_eq_getElem (by omega)] at key
    obtain⟨cs',k1,k2⟩:=Option.bind_eq_some_iff.1 key
    obtain⟨x,T,rfl,ht⟩:=ih n' (by omega) cs' _ k2
    exact⟨(x,T),k1,ht⟩
   have hx2:∃f:Nat->TV × Tr,∀i,i<len->W.cells? 0 (a.add (i*5)) 5=some (f i).1.cells/\TreeAt n' W (f i).1 (f i).2:=by
    classical
    refine⟨fun i=>if hi:i<len then Classical.choose (hx i hi) else (noTV,noTr),fun i hi=> ?_⟩
    simp only[dif_pos hi]
    exact Classical.choose_spec (hx i hi)
   obtain⟨f,hf'⟩:=hx2
   have hcell:∀i,i<len->∀j (hj:j<5),W.cell? ((a.add (i*5)).add j)=(f i).1.cells[j]? :=by
    intro i hi j hj
    obtain⟨_,hlen,hc⟩:=World.cells?_some (hf' i hi).1
    exact hc j (by omega)
   obtain⟨b,off,spot⟩:=a
   have hsp:0<len->spot=none:=fun h=>by
    have:=hcell 0 h 0 (by omega)
    simp only[TV.cells,List.getElem?_cons_zero] at this
    simpa[Addr.add] using World.cell?_spot this
   refine⟨(List.range len).map fun i=>(f i).2,(List.range len).map fun i=>(f i).1,by simp,⟨some ⟨b,off,spot⟩,b,off,cap,by simp,by simpa using hl',hm,fun h=> ?_, ?_,fun h=>by cases h⟩,fun i hi=> ?_⟩
   ·rw[hsp (by simpa using h)]
   ·refine trees_all _ (fun j=>W.cell? ⟨b,off+j,none⟩) (fun i hi=> ?_)
    have hi' :i<len:=by simpa using hi
    have hspot:=hsp (by omega)
    subst hspot
    have e:tvAt ((List.range len).map fun i=>(f i).1) i=(f i).1:=by simp[tvAt,List.getD,hi']
    rw[e]
    have g0:=hcell i hi' 0 (by omega)
    have g1:=hcell i hi' 1 (by omega)
    have g2:=hcell i hi' 2 (by omega)
    have g3:=hcell i hi' 3 (by omega)
    have g4:=hcell i hi' 4 (by omega)
    simp only[add_plain,TV.cells] at g0 g1 g2 g3 g4
    exact⟨by simpa using g0,by simpa[Nat.add_assoc] using g1,by simpa[Nat.add_assoc] using g2,by simpa[Nat.add_assoc] using g3,by simpa[Nat.add_assoc] using g4⟩
   ·have hi' :i<len:=by simpa using hi
    have e:tvAt ((List.range len).map fun i=>(f i).1) i=(f i).1:=by simp[tvAt,List.getD,hi']
    have e2:((List.range len).map fun i=>(f i).2).getD i noTr=(f i).2:=by simp[List.getD,hi']
    rw[e,e2]
    exact(hf' i hi').2.up
 obtain⟨ts,hts⟩:=hk
 exact⟨⟨bl,c1,c2,c3,c4⟩,⟨bl,l1,l2,ts,l4⟩,rfl,TreeAt.mk rfl r1 r2 r4 hts⟩

theorem arg_tree {H:Type} {enc:TypeId × Value->H} {W:World} {r:Reach} {b0:Nat} {v:Value} {d:DataW H} {p:List MemPlace}
  (hv:Value.okWide Tryz.prog W r b0 27 v) (h:DataW.Trod enc Tryz.prog W 0 (fun _=>true) true 27 v d p):∃(n:Nat) (x:TV) (T:Tr),v=x.val/\TreeAt n W x T:=by
 obtain⟨cs,rfl,hsz⟩:=okWide_struct Tryz.underlying27 hv
 obtain⟨fuel,hf⟩:=h
 obtain⟨x,T,e,ht⟩:=tree_of_trod fuel _ _ hf
 refine⟨fuel,x,T, ?_,ht⟩
 have e2:cs.toList=x.cells:=e
 rw[←Array.toArray_toList (xs:=cs),e2]
 rfl
end
end Go.Proofs.YtcmofojechfccaaGreat
