/-
  The contract of the program's giveFork.
-/
import Derived.Test.YtnakaabnjelffaaGreatOfInject34
import Derived.Test.YtnakaabnjelffaaGreatOfInject39
namespace Go.Proofs.YtnakaabnjelffaaGreat
set_option maxRecDepth 100000
set_option maxHeartbeats 8000000
section
open Go.RowKit

theorem MQ {w ws:World} {g:Nat} {x y v:Value} {SF:ML} (hz:Ai ws g #[.slice none 0 0, .slice none 0 0]) (u2:Ai ws (w.heap.size+1) #[.slice none 0 0, .slice none 0 0]) (u3:Below w.heap.size w ws) (o:ws.ownsRow (w.heap.size+2) 31 3 v SF.length (Al SF)) (hg:w.heap.size+2<=g) (hl:∀g',v.ownBlock=some g' ->g<g') :
  Ai (setR ws g x y) g #[x,y]/\(setR ws g x y).ownsRow (w.heap.size+2) 31 3 v SF.length (Al SF)/\(∀h,v.ownBlock=some h->¬h=g)/\Ai (setR ws g x y) (w.heap.size+1) #[.slice none 0 0, .slice none 0 0]/\Below w.heap.size w (setR ws g x y):=
 ⟨hz.set2 x y,AQ o (Av ws g x y) (fun g' h e=>by have:=hl g' h;omega),(fun h k e=>by have:=hl h k;omega),u2.setR x y (by omega),(u3.setCell (p:=⟨g,0,none⟩) (by show _<=g;omega) x).setCell (p:=⟨g,1,none⟩) (by show _<=g;omega) y⟩
def GfI (d:Nat) (F:Nat->Prop) (lo hi:Int) (LR:TM × ML) (w u:World) (g:Nat) (b:ML) (vb:Value) (x:TM) (v1 v2:Value):Prop:=
 ∃f,Ai u g #[v1,v2]/\Ad d u (fun h=>(F h/\h<w.heap.size)∨(w.heap.size+2<=h/\¬h=g)) v1 x.1/\Aj u (fun h=>(F h/\h<w.heap.size)∨(w.heap.size+2<=h/\¬h=g)) v2 x.2.length (Ab x.2)/\Aj u (fun h=>(F h/\h<w.heap.size)∨(w.heap.size+2<=h/\¬h=g)) vb b.length (Al b)/\Seg d f lo hi x.2 x.1/\ES lo hi b/\MOk d x/\2<=x.1.length/\wtL d x.1+b.length<=100000/\Bs (Ae d) b.length x b=LR/\w.heap.size+2<=g/\Ai u (w.heap.size+1) #[.slice none 0 0, .slice none 0 0]/\Below w.heap.size w u
def Yt (a:Act):Nat:=match a.tmps[6]? with|some (Value.slice _ n _)=>n|_=>0

theorem Seg.putMost {d:Nat} (hd:0<d) {f:Int->Int × Bool} {lo hi:Int} {x:TM} {b:ML} (a:Seg d f lo hi x.2 x.1) (hb:ES lo hi b) {i:Nat} (hi0:i<x.1.length):∃h,Seg d h lo hi (Bb x i (Ae d (x.1.getD i Ah) (Ar x.2 i b))).2 (Bb x i (Ae d (x.1.getD i Ah) (Ar x.2 i b))).1:=by
 obtain⟨e,rfl⟩:∃e,d=e+1:=⟨d-1,by omega⟩
 have hl:=a.len
 let hh:Int->Int × Bool:=fun k=>if AN x.2 k=i then Er (f k) (ofK b k) else f k
 have p1:Seg (e+1) hh (frC x.2 lo i) (toC x.2 hi i) (Ae (e+1) (x.1.getD i Ah) (Ar x.2 i b)).2 (Ae (e+1) (x.1.getD i Ah) (Ar x.2 i b)).1:=
  (a.kid (Im e) hb hi0).congr fun k h1 h2=>by
   show _=if _ then _ else _
   rw[if_pos (a.cuts.pref (by omega) h1 h2)]
 exact⟨hh,a.put hi0 p1 fun k _ _ h3=>by
  show _=if _ then _ else _
  rw[if_neg h3]⟩

theorem Pe (d:Nat) (hd:0<d) (H:Oy d) (F:Nat->Prop) (y:TV) (T:Tr) (vm:Value) (ms:ML) (lo hi:Int) (w:World) (ht:Aq (d+1) w F y T) (hm:Row w vm ms.length (Al ms)) (hT:AG (d+1) T lo hi=d+1) (hms:ES lo hi ms) (hl:T.leaf=false) (hn:wt (d+1) T+ms.length<=100000) :
  Calls Tryz.prog 54 #[y.val,vm] w fun e w' =>∃v1 v2,e= .returned (.agg #[v1,v2])/\Ad (d+1) w' (fun b=>F b∨w.heap.size<=b) v1 (Ae (d+1) T ms).1/\Aj w' (fun b=>F b∨w.heap.size<=b) v2 (Ae (d+1) T ms).2.length (Ab (Ae (d+1) T ms).2)/\Below w.heap.size w w' :=by
 obtain⟨r1,r2,r3,r4,s1,s2,s3,s4,hy⟩:=ht.treeAt.shape
 obtain⟨a5,q5,hvm,_⟩:=hm.len
 obtain⟨hfo,hseg⟩:=Rt.kids hT hl
 obtain⟨o1,o2,o3,o4,o5,o6⟩:=AW hfo
 obtain⟨-, -,hcR,hbR,hkR⟩:=ht.parts
 have hbuf:=DU o5
 have hSm:ES lo hi (AC (T.buf++ms)):=ES.shrink fun q hq=>(List.mem_append.1 hq).elim (fun h1=>(hbuf q h1).2) (fun h1=>(hms q h1).2)
 have hsl:=Gs (T.buf++ms)
 rw[List.length_append] at hsl
 have hMO:MOk d (T.kids,T.cuts):=⟨o3,fun t ht' =>by
  obtain⟨i,hi0,rfl⟩:=List.getElem_of_mem ht'
  have e:=(hseg.at i hi0).1
  have e2:T.kids.getD i Ah=T.kids[i]:=by simp[List.getD,hi0]
  rw[e2] at e
  have:=Du (m:=d) (T:=T.kids[i]) (lo:=frC T.cuts lo i) (up:=toC T.cuts hi i) (by omega)
  rw[e] at this
  exact this⟩
 have hwt:wtL d T.kids+T.buf.length=wt (d+1) T:=by rw[wt,if_neg (by rw[hl];simp)];rfl
 have hGM:Ae (d+1) T ms=IE (Ae d) (Bs (Ae d) (AC (T.buf++ms)).length (T.kids,T.cuts) (AC (T.buf++ms))):=by rw[Ae,if_neg (by rw[hl];simp)]
 have hb:=hbR.row
 rw[hy] at hb hcR hkR
 simp only at hb hcR hkR
 rw[hy,hl]
 subst hvm;rw[hGM]
 have INI:Hid (∀(g:Nat) (vb:Value) (u:World),Below w.heap.size w u->Ai u g #[.slice r3 T.kids.length s3, .slice r2 T.cuts.length s2]->Aj u (fun h=>(F h/\h<w.heap.size)∨(w.heap.size+2<=h/\¬h=g)) vb (AC (T.buf++ms)).length (Al (AC (T.buf++ms)))->w.heap.size+2<=g->Ai u (w.heap.size+1) #[.slice none 0 0, .slice none 0 0]→
   GfI d F lo hi (Bs (Ae d) (AC (T.buf++ms)).length (T.kids,T.cuts) (AC (T.buf++ms))) w u g (AC (T.buf++ms)) vb (T.kids,T.cuts) (.slice r3 T.kids.length s3) (.slice r2 T.cuts.length s2)):=fun g vb u bu bx rb hg br=>
  ⟨_,bx,(hkR.lt.below bu).mono (fun h k=> .inl k),((hcR.lt (Ch _).2).below bu).mono (fun h k=> .inl k),rb,hseg,hSm,hMO,o2.1,by show wtL d T.kids+_<=_;omega,rfl,hg,br,bu⟩
 show Calls Tryz.prog 54 #[.agg #[.bool false, .slice r1 T.pairs.length s1, .slice r2 T.cuts.length s2, .slice r3 T.kids.length s3, .slice r4 T.buf.length s4], .slice a5 ms.length q5] w _
 have hn2:T.buf.length+ms.length<=1000000:=by omega
 clear ht hT hms hl hn hfo hseg o1 o2 o3 o4 o5 o6 hcR hbR hkR hbuf hSm hsl hMO hwt hGM hy;generalize hz4:T.buf=B at *
 clear hz4;generalize hLR:Bs (Ae d) (AC (B++ms)).length (T.kids,T.cuts) (AC (B++ms))=LR at *
 clear hLR;generalize T.pairs.length=z1 at *
 generalize hX:(T.kids,T.cuts)=X0 at *
 have E3:Hid (T.kids.length=X0.1.length):=by show _=_;rw[←hX]
 have E2:Hid (T.cuts.length=X0.2.length):=by show _=_;rw[←hX]
 clear hX;generalize T.kids.length=z3 at *
 generalize T.cuts.length=z2 at *
 have KO:Hid (∀u,Calls Tryz.prog 68 #[.agg #[.bool false, .slice r1 z1 s1, .slice r2 z2 s2, .slice r3 z3 s3, .slice r4 B.length s4]] u fun e w' =>e= .returned (.agg #[.slice r3 z3 s3, .slice r2 z2 s2])/\Below u.heap.size u w'):=fun u=>Mh false r1 r2 r3 r4 z1 z2 z3 B.length s1 s2 s3 s4 u
 have CO:Hid (∀(u:World) (b:Nat),Below w.heap.size w u->u.heap[b]? =some (.cells #[.slice r4 B.length s4, .slice a5 ms.length q5] 27 (0,0))->Calls Tryz.prog 74 #[.slice (some ⟨b,0,none⟩) 2 2] u fun e w' =>∃v',e= .returned v' ∧w'.ownsRow u.heap.size 31 3 v' (B++ms).length (Al (B++ms))/\Below u.heap.size u w'):=fun u b hu hh=>Nk b _ _ B ms u hh (hb.below hu) (hm.below hu) (by omega)
 have SH:Hid (∀(u:World) (v:Value),Row u v (B++ms).length (Al (B++ms))->Calls Tryz.prog 94 #[v] u fun e w' =>∃v',e= .returned v' ∧w'.ownsRow u.heap.size 31 3 v' (AC (B++ms)).length (Al (AC (B++ms)))/\Below u.heap.size u w'):=fun u v hv=>Nt v (B++ms) u hv (by rw[List.length_append];omega)
 generalize AC (B++ms)=SF at *
 generalize B++ms=BM at *
 clear hb hm hn2;generalize ms.length=nm at *
 generalize B.length=z4 at *
 have X0:CF ((w.alloc (.cells #[.bool false, .slice r1 z1 s1, .slice r2 z2 s2, .slice r3 z3 s3, .slice r4 z4 s4] 29)).alloc (.cells #[.slice none 0 0, .slice none 0 0] 52)) w.heap.size #[.bool false, .slice r1 z1 s1, .slice r2 z2 s2, .slice r3 z3 s3, .slice r4 z4 s4]:=(CF.start w _).step (al1 _ _)
 have X1:Ai ((w.alloc (.cells #[.bool false, .slice r1 z1 s1, .slice r2 z2 s2, .slice r3 z3 s3, .slice r4 z4 s4] 29)).alloc (.cells #[.slice none 0 0, .slice none 0 0] 52)) (w.heap.size+1) #[.slice none 0 0, .slice none 0 0]:=by
  have:=Ai.start (w.alloc (.cells #[.bool false, .slice r1 z1 s1, .slice r2 z2 s2, .slice r3 z3 s3, .slice r4 z4 s4] 29)) #[.slice none 0 0, .slice none 0 0]
  rw[World.size_alloc] at this
  exact this
 have ST:Hid (∀u u',Below u.heap.size u u' ->(u.cell? ⟨w.heap.size,0,none⟩=some (.bool false)/\u.cell? ⟨w.heap.size,1,none⟩=some (.slice r1 z1 s1)/\u.cell? ⟨w.heap.size,2,none⟩=some (.slice r2 z2 s2)/\u.cell? ⟨w.heap.size,3,none⟩=some (.slice r3 z3 s3)/\u.cell? ⟨w.heap.size,4,none⟩=some (.slice r4 z4 s4)/\Hid (CF u w.heap.size #[.bool false, .slice r1 z1 s1, .slice r2 z2 s2, .slice r3 z3 s3, .slice r4 z4 s4]/\Ai u (w.heap.size+1) #[.slice none 0 0, .slice none 0 0]/\Below w.heap.size w u))->(u'.cell? ⟨w.heap.size,0,none⟩=some (.bool false)/\u'.cell? ⟨w.heap.size,1,none⟩=some (.slice r1 z1 s1)/\u'.cell? ⟨w.heap.size,2,none⟩=some (.slice r2 z2 s2)/\u'.cell? ⟨w.heap.size,3,none⟩=some (.slice r3 z3 s3)/\u'.cell? ⟨w.heap.size,4,none⟩=some (.slice r4 z4 s4)/\Hid (CF u' w.heap.size #[.bool false, .slice r1 z1 s1, .slice r2 z2 s2, .slice r3 z3 s3, .slice r4 z4 s4]/\Ai u' (w.heap.size+1) #[.slice none 0 0, .slice none 0 0]/\Below w.heap.size w u'))):=fun u u' hb h=>by
  obtain⟨h1,h2,h3⟩:=h.2.2.2.2.2.out
  have k:=h1.step hb
  exact⟨k.cells 0,k.cells 1,k.cells 2,k.cells 3,k.cells 4,k,h2.step hb,Below.and h3 hb⟩
 have KA:Hid (∀(u:World) (o:Obj),(u.cell? ⟨w.heap.size,0,none⟩=some (.bool false)/\u.cell? ⟨w.heap.size,1,none⟩=some (.slice r1 z1 s1)/\u.cell? ⟨w.heap.size,2,none⟩=some (.slice r2 z2 s2)/\u.cell? ⟨w.heap.size,3,none⟩=some (.slice r3 z3 s3)/\u.cell? ⟨w.heap.size,4,none⟩=some (.slice r4 z4 s4)/\Hid (CF u w.heap.size #[.bool false, .slice r1 z1 s1, .slice r2 z2 s2, .slice r3 z3 s3, .slice r4 z4 s4]/\Ai u (w.heap.size+1) #[.slice none 0 0, .slice none 0 0]/\Below w.heap.size w u))->((u.alloc o).cell? ⟨w.heap.size,0,none⟩=some (.bool false)/\(u.alloc o).cell? ⟨w.heap.size,1,none⟩=some (.slice r1 z1 s1)/\(u.alloc o).cell? ⟨w.heap.size,2,none⟩=some (.slice r2 z2 s2)/\(u.alloc o).cell? ⟨w.heap.size,3,none⟩=some (.slice r3 z3 s3)/\(u.alloc o).cell? ⟨w.heap.size,4,none⟩=some (.slice r4 z4 s4)/\Hid (CF (u.alloc o) w.heap.size #[.bool false, .slice r1 z1 s1, .slice r2 z2 s2, .slice r3 z3 s3, .slice r4 z4 s4]/\Ai (u.alloc o) (w.heap.size+1) #[.slice none 0 0, .slice none 0 0]/\Below w.heap.size w (u.alloc o)))):=fun u o h=>ST.out u _ (al1 u o) h
 have SD:Hid (∀u,(u.cell? ⟨w.heap.size,0,none⟩=some (.bool false)/\u.cell? ⟨w.heap.size,1,none⟩=some (.slice r1 z1 s1)/\u.cell? ⟨w.heap.size,2,none⟩=some (.slice r2 z2 s2)/\u.cell? ⟨w.heap.size,3,none⟩=some (.slice r3 z3 s3)/\u.cell? ⟨w.heap.size,4,none⟩=some (.slice r4 z4 s4)/\Hid (CF u w.heap.size #[.bool false, .slice r1 z1 s1, .slice r2 z2 s2, .slice r3 z3 s3, .slice r4 z4 s4]/\Ai u (w.heap.size+1) #[.slice none 0 0, .slice none 0 0]/\Below w.heap.size w u))->(u.drew.cell? ⟨w.heap.size,0,none⟩=some (.bool false)/\u.drew.cell? ⟨w.heap.size,1,none⟩=some (.slice r1 z1 s1)/\u.drew.cell? ⟨w.heap.size,2,none⟩=some (.slice r2 z2 s2)/\u.drew.cell? ⟨w.heap.size,3,none⟩=some (.slice r3 z3 s3)/\u.drew.cell? ⟨w.heap.size,4,none⟩=some (.slice r4 z4 s4)/\Hid (CF u.drew w.heap.size #[.bool false, .slice r1 z1 s1, .slice r2 z2 s2, .slice r3 z3 s3, .slice r4 z4 s4]/\Ai u.drew (w.heap.size+1) #[.slice none 0 0, .slice none 0 0]/\Below w.heap.size w u.drew))):=fun u h=>ST.out u _ (Below.refl _ _).drew h
 have SB:Hid (∀u,(u.cell? ⟨w.heap.size,0,none⟩=some (.bool false)/\u.cell? ⟨w.heap.size,1,none⟩=some (.slice r1 z1 s1)/\u.cell? ⟨w.heap.size,2,none⟩=some (.slice r2 z2 s2)/\u.cell? ⟨w.heap.size,3,none⟩=some (.slice r3 z3 s3)/\u.cell? ⟨w.heap.size,4,none⟩=some (.slice r4 z4 s4)/\Hid (CF u w.heap.size #[.bool false, .slice r1 z1 s1, .slice r2 z2 s2, .slice r3 z3 s3, .slice r4 z4 s4]/\Ai u (w.heap.size+1) #[.slice none 0 0, .slice none 0 0]/\Below w.heap.size w u))->Below w.heap.size w u):=fun u h=>h.2.2.2.2.2.out.2.2
 have KS:Hid (∀(u:World) (g:Nat) (x y:Value),w.heap.size+2<=g->(u.cell? ⟨w.heap.size,0,none⟩=some (.bool false)/\u.cell? ⟨w.heap.size,1,none⟩=some (.slice r1 z1 s1)/\u.cell? ⟨w.heap.size,2,none⟩=some (.slice r2 z2 s2)/\u.cell? ⟨w.heap.size,3,none⟩=some (.slice r3 z3 s3)/\u.cell? ⟨w.heap.size,4,none⟩=some (.slice r4 z4 s4)/\Hid (CF u w.heap.size #[.bool false, .slice r1 z1 s1, .slice r2 z2 s2, .slice r3 z3 s3, .slice r4 z4 s4]/\Ai u (w.heap.size+1) #[.slice none 0 0, .slice none 0 0]/\Below w.heap.size w u))->((setR u g x y).cell? ⟨w.heap.size,0,none⟩=some (.bool false)/\(setR u g x y).cell? ⟨w.heap.size,1,none⟩=some (.slice r1 z1 s1)/\(setR u g x y).cell? ⟨w.heap.size,2,none⟩=some (.slice r2 z2 s2)/\(setR u g x y).cell? ⟨w.heap.size,3,none⟩=some (.slice r3 z3 s3)/\(setR u g x y).cell? ⟨w.heap.size,4,none⟩=some (.slice r4 z4 s4)/\Hid (CF (setR u g x y) w.heap.size #[.bool false, .slice r1 z1 s1, .slice r2 z2 s2, .slice r3 z3 s3, .slice r4 z4 s4]/\Ai (setR u g x y) (w.heap.size+1) #[.slice none 0 0, .slice none 0 0]/\Below w.heap.size w (setR u g x y)))):=fun u g x y hg h=>by
  obtain⟨h1,h2,h3⟩:=h.2.2.2.2.2.out
  have k:=h1.chg (Av u g x y) (show ¬w.heap.size=g by omega)
  exact⟨k.cells 0,k.cells 1,k.cells 2,k.cells 3,k.cells 4,k,h2.setR x y (by omega),(h3.setCell (p:=⟨g,0,none⟩) (by show _<=g;omega) x).setCell (p:=⟨g,1,none⟩) (by show _<=g;omega) y⟩
 have S0:Hid (((w.alloc (.cells #[.bool false, .slice r1 z1 s1, .slice r2 z2 s2, .slice r3 z3 s3, .slice r4 z4 s4] 29)).alloc (.cells #[.slice none 0 0, .slice none 0 0] 52)).cell? ⟨w.heap.size,0,none⟩=some (.bool false)/\((w.alloc (.cells #[.bool false, .slice r1 z1 s1, .slice r2 z2 s2, .slice r3 z3 s3, .slice r4 z4 s4] 29)).alloc (.cells #[.slice none 0 0, .slice none 0 0] 52)).cell? ⟨w.heap.size,1,none⟩=some (.slice r1 z1 s1)/\((w.alloc (.cells #[.bool false, .slice r1 z1 s1, .slice r2 z2 s2, .slice r3 z3 s3, .slice r4 z4 s4] 29)).alloc (.cells #[.slice none 0 0, .slice none 0 0] 52)).cell? ⟨w.heap.size,2,none⟩=some (.slice r2 z2 s2)/\((w.alloc (.cells #[.bool false, .slice r1 z1 s1, .slice r2 z2 s2, .slice r3 z3 s3, .slice r4 z4 s4] 29)).alloc (.cells #[.slice none 0 0, .slice none 0 0] 52)).cell? ⟨w.heap.size,3,none⟩=some (.slice r3 z3 s3)/\((w.alloc (.cells #[.bool false, .slice r1 z1 s1, .slice r2 z2 s2, .slice r3 z3 s3, .slice r4 z4 s4] 29)).alloc (.cells #[.slice none 0 0, .slice none 0 0] 52)).cell? ⟨w.heap.size,4,none⟩=some (.slice r4 z4 s4)/\Hid (CF ((w.alloc (.cells #[.bool false, .slice r1 z1 s1, .slice r2 z2 s2, .slice r3 z3 s3, .slice r4 z4 s4] 29)).alloc (.cells #[.slice none 0 0, .slice none 0 0] 52)) w.heap.size #[.bool false, .slice r1 z1 s1, .slice r2 z2 s2, .slice r3 z3 s3, .slice r4 z4 s4]/\Ai ((w.alloc (.cells #[.bool false, .slice r1 z1 s1, .slice r2 z2 s2, .slice r3 z3 s3, .slice r4 z4 s4] 29)).alloc (.cells #[.slice none 0 0, .slice none 0 0] 52)) (w.heap.size+1) #[.slice none 0 0, .slice none 0 0]/\Below w.heap.size w ((w.alloc (.cells #[.bool false, .slice r1 z1 s1, .slice r2 z2 s2, .slice r3 z3 s3, .slice r4 z4 s4] 29)).alloc (.cells #[.slice none 0 0, .slice none 0 0] 52)))):=⟨X0.cells 0,X0.cells 1,X0.cells 2,X0.cells 3,X0.cells 4,X0,X1,al2 _ _ _⟩
 clear X0 X1;go_enter Tryz.func54,Tryz.ntmps54
 go_wp2;refine Qe (fun a' u=>∃(g:Nat) (b:ML) (e1:Option Addr) (p1:Nat) (x:TM) (f1 f2:Option Addr) (t1 t2:Nat) (u7 u8 u9 u10 u11 u12 u13 u14 u15 u16 u17 u18 u19 u20 u21 u22 u23 u24 u25 u26 u27 u28 u29 u30 u31 u32 u33 u34 u35 u36 u37 u38:Value),a' ={ tmps:= #[.agg #[.bool false, .slice r1 z1 s1, .slice r2 z2 s2, .slice r3 z3 s3, .slice r4 z4 s4], .slice a5 nm q5, .pointer (some ⟨w.heap.size,0,none⟩),undef, .pointer (some ⟨w.heap.size+1,0,none⟩), .pointer (some ⟨g,0,none⟩), .slice e1 b.length p1,u7,u8,u9,u10,u11,u12,u13,u14,u15,u16,u17,u18,u19,u20,u21,u22,u23,u24,u25,u26,u27,u28,u29,u30,u31,u32,u33,u34,u35,u36,u37,u38],defers:=[] }/\b.length<=6/\GfI d F lo hi LR w u g b (.slice e1 b.length p1) x (.slice f1 x.1.length t1) (.slice f2 x.2.length t2)) (fun a' u=>∃(g:Nat) (b:ML) (e1:Option Addr) (p1:Nat) (x:TM) (f1 f2:Option Addr) (t1 t2:Nat) (u7 u8 u9 u10 u11 u12 u13 u14 u15 u16 u17 u18 u19 u20 u21 u22 u23 u24 u25 u26 u27 u28 u29 u30 u31 u32 u33 u34 u35 u36 u37 u38:Value),a' ={ tmps:= #[.agg #[.bool false, .slice r1 z1 s1, .slice r2 z2 s2, .slice r3 z3 s3, .slice r4 z4 s4], .slice a5 nm q5, .pointer (some ⟨w.heap.size,0,none⟩),undef, .pointer (some ⟨w.heap.size+1,0,none⟩), .pointer (some ⟨g,0,none⟩), .slice e1 b.length p1,u7,u8,u9,u10,u11,u12,u13,u14,u15,u16,u17,u18,u19,u20,u21,u22,u23,u24,u25,u26,u27,u28,u29,u30,u31,u32,u33,u34,u35,u36,u37,u38],defers:=[] }/\GfI d F lo hi LR w u g b (.slice e1 b.length p1) x (.slice f1 x.1.length t1) (.slice f2 x.2.length t2)) (fun a' _=>Yt a') rfl rfl ?first ?pass1 ?pass0
 case first=>
  refine Cj (fun u=>(u.cell? ⟨w.heap.size,0,none⟩=some (.bool false)/\u.cell? ⟨w.heap.size,1,none⟩=some (.slice r1 z1 s1)/\u.cell? ⟨w.heap.size,2,none⟩=some (.slice r2 z2 s2)/\u.cell? ⟨w.heap.size,3,none⟩=some (.slice r3 z3 s3)/\u.cell? ⟨w.heap.size,4,none⟩=some (.slice r4 z4 s4)/\Hid (CF u w.heap.size #[.bool false, .slice r1 z1 s1, .slice r2 z2 s2, .slice r3 z3 s3, .slice r4 z4 s4]/\Ai u (w.heap.size+1) #[.slice none 0 0, .slice none 0 0]/\Below w.heap.size w u))) S0.out ?_
  rintro wA SW1
  clear S0;have hA2:w.heap.size+2<=wA.heap.size:=Ca SW1.2.2.2.2.2.out.2.1
  go_wp2_with fail;go_cut [5,6] (fun s5 s6 wx=>∃(g:Nat) (e1:Option Addr) (p1:Nat),s5= .pointer (some ⟨g,0,none⟩)/\s6= .slice e1 SF.length p1/\w.heap.size+2<=g/\Hid (Ai wx g #[.slice r3 z3 s3, .slice r2 z2 s2]/\wx.ownsRow (w.heap.size+2) 31 3 (.slice e1 SF.length p1) SF.length (Al SF)/\(∀h,(Value.slice e1 SF.length p1).ownBlock=some h->¬h=g)/\Ai wx (w.heap.size+1) #[.slice none 0 0, .slice none 0 0]/\Below w.heap.size w wx))
  case first=>
   go_region_held3 (fun u=>(u.cell? ⟨w.heap.size,0,none⟩=some (.bool false)/\u.cell? ⟨w.heap.size,1,none⟩=some (.slice r1 z1 s1)/\u.cell? ⟨w.heap.size,2,none⟩=some (.slice r2 z2 s2)/\u.cell? ⟨w.heap.size,3,none⟩=some (.slice r3 z3 s3)/\u.cell? ⟨w.heap.size,4,none⟩=some (.slice r4 z4 s4)/\Hid (CF u w.heap.size #[.bool false, .slice r1 z1 s1, .slice r2 z2 s2, .slice r3 z3 s3, .slice r4 z4 s4]/\Ai u (w.heap.size+1) #[.slice none 0 0, .slice none 0 0]/\Below w.heap.size w u))) (first|assumption|exact SD.out _ (by assumption)|exact KA.out _ _ (by assumption)|exact KS.out _ _ _ _ (by omega) (by assumption)) (first
    |(go_at_call 68;refine Calls.mono (KO.out _) ?_;rintro e wk ⟨rfl,pbk⟩;have SWk:=ST.out _ _ pbk (by assumption);(first|(have HBK:wk.heap[wA.heap.size]? =some (.cells #[.slice r4 z4 s4, .slice a5 nm q5] 27 (0,0)):=Ck pbk (FP (DY rfl)))|(have HBK:wk.heap[wA.heap.size]? =some (.cells #[.slice r4 z4 s4, .slice a5 nm q5] 27 (0,0)):=Ck pbk (FP (Ck (al1 _ _) (DY rfl))))|(have HBK:wk.heap[wA.heap.size+1]? =some (.cells #[.slice r4 z4 s4, .slice a5 nm q5] 27 (0,0)):=Ck pbk (FP (DY (by simp))))|skip);(first|(have HZK:Ai wk (wA.heap.size) #[.slice none 0 0, .slice none 0 0]:=Ck pbk (FP (DY rfl)))|(have HZK:Ai wk (wA.heap.size) #[.slice none 0 0, .slice none 0 0]:=Ck pbk (FP (Ck (al1 _ _) (DY rfl))))|(have HZK:Ai wk (wA.heap.size+1) #[.slice none 0 0, .slice none 0 0]:=Ck pbk (FP (DY (by simp))))|skip);have hkk:=Ca SWk.2.2.2.2.2.out.2.1;clear pbk)
    |(go_at_call 74;refine Calls.mono (CO.out _ _ (SB.out _ (by assumption)) (by first|exact HBK|exact Ck (al1 _ _) HBK|exact DY rfl|exact DY (by simp)|exact Ck (al1 _ _) (DY rfl))) ?_;rintro e wc0 ⟨vc,rfl,oc,pbc⟩;have SWc:=ST.out _ _ pbc (by assumption);obtain⟨cc,dc,hvc,_⟩:=(Row.of_owns oc).len;subst hvc;have RC:Hid (∀x,Below wc0.heap.size wc0 x->Row x (.slice cc BM.length dc) BM.length (Al BM)):=fun x hx=>(Row.of_owns oc).below hx;(first|(have HZC:Ai wc0 (_) #[.slice none 0 0, .slice none 0 0]:=Ck pbc HZK)|(have HZC:Ai wc0 (_) #[.slice none 0 0, .slice none 0 0]:=Ck pbc (Ck (al1 _ _) HZK))|(have HZC:Ai wc0 (wk.heap.size) #[.slice none 0 0, .slice none 0 0]:=Ck pbc (DY rfl))|(have HZC:Ai wc0 (wk.heap.size) #[.slice none 0 0, .slice none 0 0]:=Ck pbc (Ck (al1 _ _) (DY rfl)))|(have HZC:Ai wc0 (wk.heap.size+1) #[.slice none 0 0, .slice none 0 0]:=Ck pbc (DY (by simp)))|skip);have hcc:=Ca SWc.2.2.2.2.2.out.2.1;clear oc pbc)
    |(go_at_call 94;refine Calls.mono (SH.out _ _ (RC.out _ (by first|exact Below.refl _ _|exact al1 _ _))) ?_;rintro e ws ⟨vs,rfl,os,pbs⟩;have SWs:=ST.out _ _ pbs (by assumption);obtain⟨cs,ds,hvs,_⟩:=(Row.of_owns os).len;subst hvs;have OQ:Hid (ws.ownsRow (w.heap.size+2) 31 3 (.slice cs SF.length ds) SF.length (Al SF)):=AR os (by first|exact hcc|(simp;omega));have OL:Hid (∀g',(Value.slice cs SF.length ds).ownBlock=some g' ->wc0.heap.size<=g'):=fun g' h=>(by have:=(World.ownsRow.lt os g' h).1;(try simp at this);omega);(first|(have OL1:Hid (∀g',(Value.slice cs SF.length ds).ownBlock=some g' ->wc0.heap.size+1<=g'):=fun g' h=>by have:=(World.ownsRow.lt os g' h).1;simp at this;omega)|skip);(first|(have HZS:Ai ws (_) #[.slice none 0 0, .slice none 0 0]:=Ck pbs HZC)|(have HZS:Ai ws (wc0.heap.size) #[.slice none 0 0, .slice none 0 0]:=Ck pbs (DY rfl))|skip);have hss:=Ca SWs.2.2.2.2.2.out.2.1;have hps:=pbs.size;(first|(obtain⟨f0,f1⟩:=HZS.free;obtain⟨g0,g1⟩:=HZS.two)|skip);clear os pbs))
   all_goals
    obtain⟨ub1,ub2,ub3⟩:=SWs.2.2.2.2.2.out
    go_wp2;go_meet
   all_goals
    first
    |exact⟨ws.heap.size,cs,ds,rfl,rfl,hss,Ai.start ws _,AJ OQ.out (al1 _ _),(fun h k e=>by have:=(World.ownsRow.lt OQ.out h k).2;omega),ub2.step (al1 _ _),Below.and ub3 (al1 _ _)⟩
    |exact⟨wA.heap.size,cs,ds,rfl,rfl,(by omega),MQ HZS ub2 ub3 OQ.out (by omega) (fun g' h=>by have:=OL.out g' h;have:=Ai.lt HZC;omega)⟩
    |exact⟨wA.heap.size+1,cs,ds,rfl,rfl,(by omega),MQ HZS ub2 ub3 OQ.out (by omega) (fun g' h=>by have:=OL.out g' h;have:=Ai.lt HZC;omega)⟩
    |exact⟨wk.heap.size,cs,ds,rfl,rfl,(by omega),MQ HZS ub2 ub3 OQ.out (by omega) (fun g' h=>by have:=OL.out g' h;have:=Ai.lt HZC;omega)⟩
    |exact⟨wk.heap.size+1,cs,ds,rfl,rfl,(by omega),MQ HZS ub2 ub3 OQ.out (by omega) (fun g' h=>by have:=OL.out g' h;have:=Ai.lt HZC;omega)⟩
    |exact⟨wc0.heap.size,cs,ds,rfl,rfl,(by omega),MQ HZS ub2 ub3 OQ.out (by omega) (fun g' h=>by have:=OL1.out g' h;omega)⟩
  case rest=>
  obtain⟨g,e1,p1,rfl,rfl,hg2,CB⟩:=hcut
  have e3:=E3.out
  have e2:=E2.out
  subst e3 e2;have I:=INI.out g (.slice e1 SF.length p1) wc CB.out.2.2.2.2 CB.out.1 ((Aj.of_owns CB.out.2.1).mono fun h k=> .inr ⟨(World.ownsRow.lt CB.out.2.1 h k).1,CB.out.2.2.1 h k⟩) hg2 CB.out.2.2.2.1
  clear CB INI hg2 ST KA SD SB KS KO CO SH hA2 SW1 E3 E2;go_wp2;go_step3
  have I0:Hid _:=I
  clear I;by_cases h6:6<SF.length
  ·have h6' :¬((SF.length:Int)<=6):=by omega
   obtain⟨f,i1,i2,i3,i4,i5,i6,i7,i8,i9,i10,i11,i12,i13⟩:=I0.out
   obtain⟨k0,k1⟩:=i1.two
   have GB:Hid _:=Hv d H (fun h=>(F h/\h<w.heap.size)∨(w.heap.size+2<=h/\¬h=g)) (.slice r3 X0.1.length s3) (.slice r2 X0.2.length s2) (.slice e1 SF.length p1) X0 SF f lo hi wc i2 i3 i4.row i5 i6 i8 (by omega) i7 i9
   have hlt:(AZ X0.2 (Ak X0.2 SF X0.1.length).1 SF).length<SF.length:=by
    have hpos:=Fa (cs:=X0.2) (n:=X0.1.length) (show 0<SF.length by omega) (by have:=i7.1;omega)
    have hmr:=EP X0.2 (Ak X0.2 SF X0.1.length).1 SF
    omega
   have hgu:g<wc.heap.size:=i1.lt
   have hsu:w.heap.size+2<=g:=i11
   have I1:Hid _:=I0
   clear i1 i2 i3 i4 i5 i6 i7 i8 i9 i10 i11 i12 i13;go_wp2_with fail;refine Calls.mono GB.out ?_
   rintro e w1 ⟨v1,v2,v3,rfl,t1',t2',t3',pb⟩
   obtain⟨c1,y1,hv1,_⟩:=t1'.els.choose_spec.2.row.len
   obtain⟨c2,y2,hv2,_⟩:=t2'.row.len
   obtain⟨c3,y3,hv3,_⟩:=t3'.row.len
   subst hv1 hv2 hv3;have NX:Hid (GfI d F lo hi LR w (setR w1 g (.slice c1 (Bb X0 (Ak X0.2 SF X0.1.length).1 (Ae d (X0.1.getD (Ak X0.2 SF X0.1.length).1 Ah) (Ar X0.2 (Ak X0.2 SF X0.1.length).1 SF))).1.length y1) (.slice c2 (Bb X0 (Ak X0.2 SF X0.1.length).1 (Ae d (X0.1.getD (Ak X0.2 SF X0.1.length).1 Ah) (Ar X0.2 (Ak X0.2 SF X0.1.length).1 SF))).2.length y2)) g (AZ X0.2 (Ak X0.2 SF X0.1.length).1 SF) (.slice c3 (AZ X0.2 (Ak X0.2 SF X0.1.length).1 SF).length y3) (Bb X0 (Ak X0.2 SF X0.1.length).1 (Ae d (X0.1.getD (Ak X0.2 SF X0.1.length).1 Ah) (Ar X0.2 (Ak X0.2 SF X0.1.length).1 SF))) (.slice c1 (Bb X0 (Ak X0.2 SF X0.1.length).1 (Ae d (X0.1.getD (Ak X0.2 SF X0.1.length).1 Ah) (Ar X0.2 (Ak X0.2 SF X0.1.length).1 SF))).1.length y1) (.slice c2 (Bb X0 (Ak X0.2 SF X0.1.length).1 (Ae d (X0.1.getD (Ak X0.2 SF X0.1.length).1 Ah) (Ar X0.2 (Ak X0.2 SF X0.1.length).1 SF))).2.length y2)):=by
    obtain⟨f,i1,i2,i3,i4,i5,i6,i7,i8,i9,i10,i11,i12,i13⟩:=I1.out
    have hat:=(Dl X0.2 SF X0.1.length (by omega)).1
    have hpos:=Fa (cs:=X0.2) (n:=X0.1.length) (show 0<SF.length by omega) (by have:=i7.1;omega)
    have hmr:=EP X0.2 (Ak X0.2 SF X0.1.length).1 SF
    have hkk:=Bh d (X0.1.getD (Ak X0.2 SF X0.1.length).1 Ah) (Ar X0.2 (Ak X0.2 SF X0.1.length).1 SF) (i7.2 _ (Bd hat)) hpos
    obtain⟨P1,P2,P3⟩:=Hm i7 hkk.1 hat
    have hx1:=hkk.1.1
    have hx2:=hkk.2
    have hx3:0<(Ae d (X0.1.getD (Ak X0.2 SF X0.1.length).1 Ah) (Ar X0.2 (Ak X0.2 SF X0.1.length).1 SF)).1.length:=by omega
    obtain⟨hh,S2⟩:=Seg.putMost hd i5 i6 hat
    have LS:=Oj (Bh d) i7 h6
    have M1:∀h,((F h/\h<w.heap.size)∨(w.heap.size+2<=h/\¬h=g))∨wc.heap.size<=h->(F h/\h<w.heap.size)∨(w.heap.size+2<=h/\¬h=g):=fun h hh=>by
     rcases hh with hh|hh
     ·exact hh
     ·exact .inr ⟨by omega,by omega⟩
    have D:∀h,((F h/\h<w.heap.size)∨(w.heap.size+2<=h/\¬h=g))∨wc.heap.size<=h->¬h=g:=fun h hh e=>by rcases hh with(⟨_,hh⟩|⟨_,hh⟩)|hh<;>omega
    refine⟨hh,(i1.step pb).set2 _ _,(t1'.chg (Av w1 g _ _) (fun h k=>D h k)).mono M1,(t2'.chg (Av w1 g _ _) (fun h k=>D h k)).mono M1,(t3'.chg (Av w1 g _ _) (fun h k=>D h k)).mono M1,S2,i6.rest _,P1, ?_, ?_,LS.symm.trans i10,i11,(i12.step pb).setR _ _ (by omega),((Below.and i13 pb).setCell (p:=⟨g,0,none⟩) (by show _<=g;omega) _).setCell (p:=⟨g,1,none⟩) (by show _<=g;omega) _⟩
    ·omega
    ·omega
   obtain⟨g0,g1⟩:=((show Ai wc g _ from I1.out.choose_spec.1).step pb).two
   obtain⟨g2,g3⟩:=((show Ai wc g _ from I1.out.choose_spec.1).step pb).free
   clear t1' t2' t3' pb I1 I0 GB k0 k1;generalize (Bb X0 (Ak X0.2 SF X0.1.length).1 (Ae d (X0.1.getD (Ak X0.2 SF X0.1.length).1 Ah) (Ar X0.2 (Ak X0.2 SF X0.1.length).1 SF)))=PMx at *
   generalize (AZ X0.2 (Ak X0.2 SF X0.1.length).1 SF)=NMx at *
   go_wp2;go_step3
   exact⟨g,NMx,c3,y3,PMx,c1,c2,y1,y2,_,_,_,_,_,_,_,_,_,_,_,_,_,_,_,_,_,_,_,_,_,_,_,_,_,_,_,_,_,_,_,_,rfl,NX.out⟩
  ·have h6' :(SF.length:Int)<=6:=by omega
   go_wp2;go_step3
   exact⟨g,SF,e1,p1,X0,r3,r2,s3,s2,_,_,_,_,_,_,_,_,_,_,_,_,_,_,_,_,_,_,_,_,_,_,_,_,_,_,_,_,_,_,_,_,rfl,by omega,I0.out⟩
 case pass1=>
  clear INI ST KA SD SB KS KO CO SH S0 E3 E2;rintro a' u ⟨g,b,e1,p1,x,f1,f2,t1,t2,u7,u8,u9,u10,u11,u12,u13,u14,u15,u16,u17,u18,u19,u20,u21,u22,u23,u24,u25,u26,u27,u28,u29,u30,u31,u32,u33,u34,u35,u36,u37,u38,rfl,I⟩
  have I0:Hid _:=I
  clear I;by_cases h6:6<b.length
  ·have h6' :¬((b.length:Int)<=6):=by omega
   obtain⟨f,i1,i2,i3,i4,i5,i6,i7,i8,i9,i10,i11,i12,i13⟩:=I0.out
   obtain⟨k0,k1⟩:=i1.two
   have GB:Hid _:=Hv d H (fun h=>(F h/\h<w.heap.size)∨(w.heap.size+2<=h/\¬h=g)) (.slice f1 x.1.length t1) (.slice f2 x.2.length t2) (.slice e1 b.length p1) x b f lo hi u i2 i3 i4.row i5 i6 i8 (by omega) i7 i9
   have hlt:(AZ x.2 (Ak x.2 b x.1.length).1 b).length<b.length:=by
    have hpos:=Fa (cs:=x.2) (n:=x.1.length) (show 0<b.length by omega) (by have:=i7.1;omega)
    have hmr:=EP x.2 (Ak x.2 b x.1.length).1 b
    omega
   have hgu:g<u.heap.size:=i1.lt
   have hsu:w.heap.size+2<=g:=i11
   have I1:Hid _:=I0
   clear i1 i2 i3 i4 i5 i6 i7 i8 i9 i10 i11 i12 i13;go_wp2_with fail;refine Calls.mono GB.out ?_
   rintro e w1 ⟨v1,v2,v3,rfl,t1',t2',t3',pb⟩
   obtain⟨c1,y1,hv1,_⟩:=t1'.els.choose_spec.2.row.len
   obtain⟨c2,y2,hv2,_⟩:=t2'.row.len
   obtain⟨c3,y3,hv3,_⟩:=t3'.row.len
   subst hv1 hv2 hv3;have NX:Hid (GfI d F lo hi LR w (setR w1 g (.slice c1 (Bb x (Ak x.2 b x.1.length).1 (Ae d (x.1.getD (Ak x.2 b x.1.length).1 Ah) (Ar x.2 (Ak x.2 b x.1.length).1 b))).1.length y1) (.slice c2 (Bb x (Ak x.2 b x.1.length).1 (Ae d (x.1.getD (Ak x.2 b x.1.length).1 Ah) (Ar x.2 (Ak x.2 b x.1.length).1 b))).2.length y2)) g (AZ x.2 (Ak x.2 b x.1.length).1 b) (.slice c3 (AZ x.2 (Ak x.2 b x.1.length).1 b).length y3) (Bb x (Ak x.2 b x.1.length).1 (Ae d (x.1.getD (Ak x.2 b x.1.length).1 Ah) (Ar x.2 (Ak x.2 b x.1.length).1 b))) (.slice c1 (Bb x (Ak x.2 b x.1.length).1 (Ae d (x.1.getD (Ak x.2 b x.1.length).1 Ah) (Ar x.2 (Ak x.2 b x.1.length).1 b))).1.length y1) (.slice c2 (Bb x (Ak x.2 b x.1.length).1 (Ae d (x.1.getD (Ak x.2 b x.1.length).1 Ah) (Ar x.2 (Ak x.2 b x.1.length).1 b))).2.length y2)):=by
    obtain⟨f,i1,i2,i3,i4,i5,i6,i7,i8,i9,i10,i11,i12,i13⟩:=I1.out
    have hat:=(Dl x.2 b x.1.length (by omega)).1
    have hpos:=Fa (cs:=x.2) (n:=x.1.length) (show 0<b.length by omega) (by have:=i7.1;omega)
    have hmr:=EP x.2 (Ak x.2 b x.1.length).1 b
    have hkk:=Bh d (x.1.getD (Ak x.2 b x.1.length).1 Ah) (Ar x.2 (Ak x.2 b x.1.length).1 b) (i7.2 _ (Bd hat)) hpos
    obtain⟨P1,P2,P3⟩:=Hm i7 hkk.1 hat
    have hx1:=hkk.1.1
    have hx2:=hkk.2
    have hx3:0<(Ae d (x.1.getD (Ak x.2 b x.1.length).1 Ah) (Ar x.2 (Ak x.2 b x.1.length).1 b)).1.length:=by omega
    obtain⟨hh,S2⟩:=Seg.putMost hd i5 i6 hat
    have LS:=Oj (Bh d) i7 h6
    have M1:∀h,((F h/\h<w.heap.size)∨(w.heap.size+2<=h/\¬h=g))∨u.heap.size<=h->(F h/\h<w.heap.size)∨(w.heap.size+2<=h/\¬h=g):=fun h hh=>by
     rcases hh with hh|hh
     ·exact hh
     ·exact .inr ⟨by omega,by omega⟩
    have D:∀h,((F h/\h<w.heap.size)∨(w.heap.size+2<=h/\¬h=g))∨u.heap.size<=h->¬h=g:=fun h hh e=>by rcases hh with(⟨_,hh⟩|⟨_,hh⟩)|hh<;>omega
    refine⟨hh,(i1.step pb).set2 _ _,(t1'.chg (Av w1 g _ _) (fun h k=>D h k)).mono M1,(t2'.chg (Av w1 g _ _) (fun h k=>D h k)).mono M1,(t3'.chg (Av w1 g _ _) (fun h k=>D h k)).mono M1,S2,i6.rest _,P1, ?_, ?_,LS.symm.trans i10,i11,(i12.step pb).setR _ _ (by omega),((Below.and i13 pb).setCell (p:=⟨g,0,none⟩) (by show _<=g;omega) _).setCell (p:=⟨g,1,none⟩) (by show _<=g;omega) _⟩
    ·omega
    ·omega
   obtain⟨g0,g1⟩:=((show Ai u g _ from I1.out.choose_spec.1).step pb).two
   obtain⟨g2,g3⟩:=((show Ai u g _ from I1.out.choose_spec.1).step pb).free
   clear t1' t2' t3' pb I1 I0 GB k0 k1;generalize (Bb x (Ak x.2 b x.1.length).1 (Ae d (x.1.getD (Ak x.2 b x.1.length).1 Ah) (Ar x.2 (Ak x.2 b x.1.length).1 b)))=PMx at *
   generalize (AZ x.2 (Ak x.2 b x.1.length).1 b)=NMx at *
   go_wp2;go_step3
   refine⟨⟨g,NMx,c3,y3,PMx,c1,c2,y1,y2,_,_,_,_,_,_,_,_,_,_,_,_,_,_,_,_,_,_,_,_,_,_,_,_,_,_,_,_,_,_,_,_,rfl,NX.out⟩, ?_⟩
   show NMx.length<b.length
   exact hlt
  ·have h6' :(b.length:Int)<=6:=by omega
   go_wp2;go_step3
   exact⟨g,b,e1,p1,x,f1,f2,t1,t2,_,_,_,_,_,_,_,_,_,_,_,_,_,_,_,_,_,_,_,_,_,_,_,_,_,_,_,_,_,_,_,_,rfl,by omega,I0.out⟩
 case pass0=>
  clear INI ST KA SD SB KS KO CO SH S0 E3 E2;rintro a' u ⟨g,b,e1,p1,x,f1,f2,t1,t2,u7,u8,u9,u10,u11,u12,u13,u14,u15,u16,u17,u18,u19,u20,u21,u22,u23,u24,u25,u26,u27,u28,u29,u30,u31,u32,u33,u34,u35,u36,u37,u38,rfl,hb6,f,i1,i2,i3,i4,i5,i6,i7,i8,i9,i10,i11,i12,i13⟩
  have hLR:LR=(x,b):=by rw[←i10];exact UC (by omega)
  subst hLR;obtain⟨k0,k1⟩:=i1.two
  have hsu:w.heap.size+2<=u.heap.size:=Ca i12
  have BR:Hid (Ai u (w.heap.size+1) #[.slice none 0 0, .slice none 0 0]):=i12
  have BW:Hid (Below w.heap.size w u):=i13
  by_cases h4:4<x.1.length
  ·have h4' :(4:Int)<(x.1.length:Int):=by omega
   have GD:Hid _:=JW d H (fun h=>(F h/\h<w.heap.size)∨(w.heap.size+2<=h/\¬h=g)) (.slice f1 x.1.length t1) (.slice f2 x.2.length t2) (.slice e1 b.length p1) x b f lo hi u i2 i3 i4.row i5 i6 i8 i7 i9
   obtain⟨m1,m2,m3⟩:=Eu (Bh d) i7 b
   have m4:=AY m1.2
   have ED:Hid (Bc (Ba (Ae d) x b)=IE (Ae d) (x,b)):=Ww (b:=b) i7 h4
   have m1' :=m1.1
   have hn9:=i9
   clear i1 i2 i3 i4 i5 i6 i7 i8 i9 i10 i11 i12 i13 m1;generalize Ba (Ae d) x b=DM at *
   go_wp2_with fail;refine Calls.mono GD.out ?_
   rintro e w1 ⟨v1,v2,rfl,q1,q2,pb1⟩
   obtain⟨c3,y3,hv1,_⟩:=q1.els.choose_spec.2.row.len
   obtain⟨c4,y4,hv2,_⟩:=q2.row.len
   subst hv1 hv2;have FO:Hid _:=GH d _ (.slice c3 DM.1.length y3) (.slice c4 DM.2.length y4) DM w1 q1 q2 m1' (by omega)
   have B1:Hid (Below w.heap.size w w1):=Below.and BW.out pb1
   have R1:Hid (Ai w1 (w.heap.size+1) #[.slice none 0 0, .slice none 0 0]):=BR.out.step pb1
   have hs1:u.heap.size<=w1.heap.size:=pb1.size
   clear q1 q2 pb1 GD;go_wp2_with fail;refine Calls.mono FO.out ?_
   rintro e w2 ⟨v1,v2,rfl,q1,q2,pb2⟩
   obtain⟨c1,y1,hv1,_⟩:=q1.els.choose_spec.2.row.len
   obtain⟨c2,y2,hv2,_⟩:=q2.row.len
   subst hv1 hv2;have R2:=R1.out.step pb2
   obtain⟨g0,g1⟩:=R2.two
   obtain⟨g2,g3⟩:=R2.free
   have FIN:Hid (Ad (d+1) (setR w2 (w.heap.size+1) (.slice c1 (Bc DM).1.length y1) (.slice c2 (Bc DM).2.length y2)) (fun h=>F h∨w.heap.size<=h) (.slice c1 (Bc DM).1.length y1) (Bc DM).1/\Aj (setR w2 (w.heap.size+1) (.slice c1 (Bc DM).1.length y1) (.slice c2 (Bc DM).2.length y2)) (fun h=>F h∨w.heap.size<=h) (.slice c2 (Bc DM).2.length y2) (Bc DM).2.length (Ab (Bc DM).2)/\Below w.heap.size w (setR w2 (w.heap.size+1) (.slice c1 (Bc DM).1.length y1) (.slice c2 (Bc DM).2.length y2))/\Ai (setR w2 (w.heap.size+1) (.slice c1 (Bc DM).1.length y1) (.slice c2 (Bc DM).2.length y2)) (w.heap.size+1) #[.slice c1 (Bc DM).1.length y1, .slice c2 (Bc DM).2.length y2]):=by
    have D:∀h,(((F h/\h<w.heap.size)∨(w.heap.size+2<=h/\¬h=g))∨u.heap.size<=h)∨w1.heap.size<=h->¬h=w.heap.size+1:=fun h hh e=>by rcases hh with((⟨_,hh⟩|⟨hh,_⟩)|hh)|hh<;>omega
    have M1:∀h,(((F h/\h<w.heap.size)∨(w.heap.size+2<=h/\¬h=g))∨u.heap.size<=h)∨w1.heap.size<=h->F h∨w.heap.size<=h:=fun h hh=>by
     rcases hh with((⟨hh,_⟩|⟨hh,_⟩)|hh)|hh
     ·exact .inl hh
     ·exact .inr (by omega)
     ·exact .inr (by omega)
     ·exact .inr (by omega)
    exact⟨(q1.chg (Av w2 (w.heap.size+1) _ _) (fun h k=>D h k)).mono M1,(q2.chg (Av w2 (w.heap.size+1) _ _) (fun h k=>D h k)).mono M1,((Below.and B1.out pb2).setCell (p:=⟨w.heap.size+1,0,none⟩) (Nat.le_succ _) _).setCell (p:=⟨w.heap.size+1,1,none⟩) (Nat.le_succ _) _,R2.set2 _ _⟩
   clear q1 q2 pb2 R2 FO;go_wp2;simp only[Kw]
   have ZZ:=FIN.out.2.2.2.two
   exact bodyPost_ret (v:= .agg #[.slice c1 (Bc DM).1.length y1, .slice c2 (Bc DM).2.length y2]) (by simp[results,Tryz.results54,go_sem,ZZ.1,ZZ.2]) rfl ⟨_,_,rfl,(by rw[←ED.out];exact FIN.out.1),(by rw[←ED.out];exact FIN.out.2.1),FIN.out.2.2.1⟩
  ·have h4' :¬((4:Int)<(x.1.length:Int)):=by omega
   have EM:Hid (IE (Ae d) (x,b)=([⟨false,[],x.2,x.1,b⟩],[])):=by show _=_;rw[IE,if_neg h4]
   have RO:Hid _:=GR (d+1) (fun h=>(F h/\h<w.heap.size)∨(w.heap.size+2<=h/\¬h=g)) ⟨false, .slice none 0 0, .slice f2 x.2.length t2, .slice f1 x.1.length t1, .slice e1 b.length p1⟩ ⟨false,[],x.2,x.1,b⟩ u (Aq.mk rfl (Aj.nil _ _) i3 i4 i2)
   clear i1 i2 i3 i4 i5 i6 i7 i8 i9 i10 i11 i12 i13;go_wp2_with fail;refine Calls.mono RO.out ?_
   rintro e w2 ⟨v1,rfl,q1,pb2⟩
   obtain⟨c1,y1,hv1,_⟩:=q1.els.choose_spec.2.row.len
   subst hv1;have R2:=BR.out.step pb2
   obtain⟨g0,g1⟩:=R2.two
   obtain⟨g2,g3⟩:=R2.free
   have FIN:Hid (Ad (d+1) (setR w2 (w.heap.size+1) (.slice c1 1 y1) (.slice none 0 0)) (fun h=>F h∨w.heap.size<=h) (.slice c1 1 y1) [⟨false,[],x.2,x.1,b⟩]/\Below w.heap.size w (setR w2 (w.heap.size+1) (.slice c1 1 y1) (.slice none 0 0))/\Ai (setR w2 (w.heap.size+1) (.slice c1 1 y1) (.slice none 0 0)) (w.heap.size+1) #[.slice c1 1 y1, .slice none 0 0]):=by
    have D:∀h,((F h/\h<w.heap.size)∨(w.heap.size+2<=h/\¬h=g))∨u.heap.size<=h->¬h=w.heap.size+1:=fun h hh e=>by rcases hh with(⟨_,hh⟩|⟨hh,_⟩)|hh<;>omega
    have M1:∀h,((F h/\h<w.heap.size)∨(w.heap.size+2<=h/\¬h=g))∨u.heap.size<=h->F h∨w.heap.size<=h:=fun h hh=>by
     rcases hh with(⟨hh,_⟩|⟨hh,_⟩)|hh
     ·exact .inl hh
     ·exact .inr (by omega)
     ·exact .inr (by omega)
    exact⟨(q1.chg (Av w2 (w.heap.size+1) _ _) (fun h k=>D h k)).mono M1,((Below.and BW.out pb2).setCell (p:=⟨w.heap.size+1,0,none⟩) (Nat.le_succ _) _).setCell (p:=⟨w.heap.size+1,1,none⟩) (Nat.le_succ _) _,R2.set2 _ _⟩
   clear q1 pb2 R2 RO;go_wp2;simp only[Kw]
   have ZZ:=FIN.out.2.2.two
   exact bodyPost_ret (v:= .agg #[.slice c1 1 y1, .slice none 0 0]) (by simp[results,Tryz.results54,go_sem,ZZ.1,ZZ.2]) rfl ⟨_,_,rfl,(by rw[EM.out];exact FIN.out.1),(by rw[EM.out];exact Aj.nil _ _),FIN.out.2.1⟩
end
end Go.Proofs.YtnakaabnjelffaaGreat
