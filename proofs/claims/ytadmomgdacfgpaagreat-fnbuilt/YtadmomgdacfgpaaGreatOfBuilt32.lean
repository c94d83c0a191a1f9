/-
  The library's Max and Index over numbers; the program's busiest: the kid to which most messages belong.
  The contract of the program's busiest.
  The library's Grow and Concat, over trees and over numbers: any number of parts.
  The program's rows of trees: rowOf, kidsOf.
-/
import Derived.Test.YtadmomgdacfgpaaGreatOfBuilt31
import Derived.Test.YtadmomgdacfgpaaGreatOfBuilt12
import Derived.Test.YtadmomgdacfgpaaGreatOfBuilt22
import Derived.Test.YtadmomgdacfgpaaGreatOfBuilt30
import Derived.Test.YtadmomgdacfgpaaGreatOfBuilt19
namespace Go.Proofs.YtadmomgdacfgpaaGreat
set_option maxRecDepth 100000
set_option maxHeartbeats 8000000
section
open Go.RowKit

theorem V5 (v:Value) (l:List Int) (w:World) (hr:Row w v l.length (Ad l)) (h0:0<l.length) (hb:∀i,i<l.length-> -9223372036854775808<=iAt l i/\iAt l i<=9223372036854775807) :
  Calls Tryz.prog 131 #[v] w fun e w' =>∃r:Int,e= .returned (.int .i64 r)/\(∀i,i<l.length->iAt l i<=r)/\(∃i,i<l.length/\iAt l i=r)/\w' =w:=by
 obtain⟨a,b,off,cap,rfl,hcap,hmax,ha,hk⟩:=hr.ints
 have hal:=ha h0
 subst hal;unfold maxLen at hmax;have HK:Hid _:=hk
 have d0:=hk 0 h0
 simp only[Nat.add_zero] at d0
 have HB:Hid _:=hb
 have hb0:=hb 0 h0
 have P0:Hid (∀i,i<1->iAt l i<=iAt l 0):=fun i hi=>by rw[show i=0 by omega];exact Int.le_refl _
 have E0:Hid (∃i,i<l.length/\iAt l i=iAt l 0):=⟨0,h0,rfl⟩
 clear hk hb;generalize hn:l.length=n at *
 clear hn;have hn1:¬((n:Int)<1):=by omega
 go_enter Tryz.func131,Tryz.ntmps131
 go_wp2;go_loopw [3,4] (fun s ix wr=>w=wr/\∃(k:Nat) (r:Int),s= .int .i64 r/\ix= .int .i64 k/\1<=k/\k<=n/\Hid (∀i,i<k->iAt l i<=r)/\Hid (∃i,i<n/\iAt l i=r))
  (fun _ ix _=>n-(intOf ix).toNat)
 case atStart=>exact⟨rfl,1,_,rfl,rfl,Nat.le_refl _,by omega,P0,E0⟩
 case round=>
  obtain⟨rfl,k,r,rfl,rfl,hk1,hkn,PR,ER⟩:=hrel
  by_cases hlt:k<n
  ·have dk:=HK.out k hlt
   have bk:=HB.out k hlt
   have PM:Hid (∀i,i<k+1->iAt l i<=max r (iAt l k)):=fun i hi=>by
    by_cases e:i=k
    ·rw[e];omega
    ·have:=PR.out i (by omega);omega
   have EM:Hid (∃i,i<n/\iAt l i=max r (iAt l k)):=by
    by_cases e:iAt l k<=r
    ·obtain⟨i,h1,h2⟩:=ER.out
     exact⟨i,h1,by rw[h2];omega⟩
    ·exact⟨k,hlt,by omega⟩
   generalize iAt l k=xk at *
   have hkn' :(k:Int)<(n:Int):=by omega
   have hk0:(0:Int)<=(k:Int):=by omega
   go_wp2;go_roundw
   case rel=>exact⟨trivial,k+1,max r xk,by first|rfl|go_num,by go_num,by omega,by omega,PM,EM⟩
   case measure=>simp[intOf];omega
  ·have hkn' :¬((k:Int)<(n:Int)):=by omega
   go_wp2;go_ret;exact⟨r,rfl,fun i hi=>PR.out i (by omega),ER.out,rfl⟩

theorem Rw (v:Value) (l:List Int) (x:Int) (i:Nat) (w:World) (hr:Row w v l.length (Ad l)) (hi:i<l.length) (h1:iAt l i=x) (h2:∀j,j<i->iAt l j≠x) :
  Calls Tryz.prog 130 #[v, .int .i64 x] w fun e w' =>e= .returned (.int .i64 (i:Nat))/\w' =w:=by
 obtain⟨a,b,off,cap,rfl,hcap,hmax,ha,hk⟩:=hr.ints
 have hal:=ha (by omega)
 subst hal;unfold maxLen at hmax;have HK:Hid _:=hk
 have H2:Hid _:=h2
 have H1:Hid _:=h1
 clear hk h1 h2;generalize hn:l.length=n at *
 clear hn;go_enter Tryz.func130,Tryz.ntmps130
 go_wp2;go_loopw [8] (fun ix wr=>w=wr/\∃k:Nat,ix= .int .i64 k/\k<=i) (fun ix _=>n-(intOf ix).toNat)
 case atStart=>exact⟨rfl,0,rfl,Nat.zero_le _⟩
 case round=>
  obtain⟨rfl,k,rfl,hki⟩:=hrel
  have dk:=HK.out k (by omega)
  have hkn' :(k:Int)<(n:Int):=by omega
  have hk0:(0:Int)<=(k:Int):=by omega
  by_cases e:k=i
  ·have e2:iAt l k=x:=by rw[e];exact H1.out
   rw[e2] at dk
   have E:Hid (k=i):=e
   clear e e2;go_wp2;go_ret;exact⟨by rw[E.out];rfl,rfl⟩
  ·have e2:=H2.out k (by omega)
   generalize iAt l k=xk at *
   have e3:(x==xk)=false:=by rw[beq_eq_false_iff_ne];exact fun h=>e2 h.symm
   go_wp2;go_roundw
   case rel=>exact⟨trivial,k+1,by go_num,by omega⟩
   case measure=>simp[intOf];omega

theorem Ov (cs:List Int) (b:ML):∀n j,j<(Ag cs b n).1->((Am cs j b).length:Int)<(Ag cs b n).2:=by
 intro n;induction n with
 |zero=>intro j h;simp[Ag] at h
 |succ n ih=>
  intro j;rw[Ag]
  split
  ·rename_i h
   intro hj;have:=J4 cs b n j hj
   simp only
   omega
  ·exact ih j
end
section
open Go.RowKit

def EL (cs:List Int) (b:ML) (k:Nat):List Int:=(List.range (cs.length+1)).map fun i=>((Am cs i (b.take k)).length:Int)
theorem Gr (cs:List Int) (b:ML) (k:Nat):(EL cs b k).length=cs.length+1:=by simp[EL]
theorem Js (cs:List Int) (b:ML) (k i:Nat) (h:i<cs.length+1):iAt (EL cs b k) i=((Am cs i (b.take k)).length:Int):=by
 simp[EL,iAt,List.getD,h]
theorem Up (cs:List Int) (b:ML):EL cs b 0=List.replicate (cs.length+1) 0:=by
 rw[EL]
 refine List.ext_getElem (by simp) fun i h1 h2=> ?_
 simp[Am]
theorem TJ (cs:List Int) (b:ML) (k:Nat) (h:k<b.length):EL cs b (k+1)=(EL cs b k).set (Ar cs (mK b k)) (iAt (EL cs b k) (Ar cs (mK b k))+1):=by
 have hp:=GH cs (mK b k)
 refine List.ext_getElem (by simp[EL]) fun i h1 h2=> ?_
 have hi:i<cs.length+1:=by rw[Gr] at h1;exact h1
 rw[List.getElem_set]
 have e1:(EL cs b (k+1))[i]=iAt (EL cs b (k+1)) i:=by simp[iAt,List.getD,h1]
 rw[e1,Js _ _ _ _ hi,Ml cs i b k h]
 split
 ·rename_i hq
  rw[hq,Js _ _ _ _ hi]
  simp
 ·rename_i hq
  have h3:i<(EL cs b k).length:=by rw[Gr];exact hi
  have e2:(EL cs b k)[i]=iAt (EL cs b k) i:=by simp[iAt,List.getD,h3]
  rw[e2,Js _ _ _ _ hi]

theorem QJ (vc vb:Value) (cs:List Int) (b:ML) (lo hi:Int) (w:World) (hc:Row w vc cs.length (Ad cs)) (hb:Row w vb b.length (Af b)) (hs:GS lo hi cs) (hn:cs.length<=1048576) (hm:b.length<=2097152) :
  Calls Tryz.prog 118 #[vc,vb] w fun e w' =>e= .returned (.int .i64 ((Ag cs b (cs.length+1)).1:Nat))/\Below w.heap.size w w' :=by
 obtain⟨i0,hi0,hz0,hz1,hz2⟩:=info_parts Tryz.info3
 obtain⟨a2,q2,hv2,_⟩:=hc.len
 have KA:Hid (∀(x:Int) (w1:World),Below w.heap.size w w1->Calls Tryz.prog 89 #[vc, .int .i64 x] w1 fun e w' =>e= .returned (.int .i64 (Ar cs x:Nat))/\Below w1.heap.size w1 w'):=fun x w1 hb' =>by
  have:=H8 vc cs x w1 (hc.below hb')
  rw[hs.cnt] at this
  exact this
 subst hv2;obtain⟨a,bb,off,cap,hvb,hcap,hmax,ha,c0,c1,c2⟩:=hb.msgs
 subst hvb;unfold maxLen at hmax;have MG:Hid (∀(k:Nat) (w1:World),Below w.heap.size w w1->k<b.length->w1.cell? ⟨bb,off+k*3,none⟩=some (.int .i64 (mO b k))/\w1.cell? ⟨bb,off+k*3+1,none⟩=some (.int .i64 (mK b k))/\w1.cell? ⟨bb,off+k*3+2,none⟩=some (.int .i64 (mV b k))):=fun k w1 hb' hk=>
  ⟨Ab hb' (Aa (c0 k hk)) (c0 k hk),Ab hb' (Aa (c1 k hk)) (c1 k hk),Ab hb' (Aa (c2 k hk)) (c2 k hk)⟩
 have CS:Hid (∀k,k<b.length->EL cs b (k+1)=(EL cs b k).set (Ar cs (mK b k)) (iAt (EL cs b k) (Ar cs (mK b k))+1)):=fun k=>TJ cs b k
 have CL:Hid (∀k,(EL cs b k).length=cs.length+1):=Gr cs b
 have CA:Hid (∀k i,i<cs.length+1->0<=iAt (EL cs b k) i/\iAt (EL cs b k) i<=2097152):=fun k i h=>by
  rw[Js _ _ _ _ h]
  have:=Cx cs i (b.take k)
  have:(b.take k).length<=b.length:=by rw[List.length_take];omega
  omega
 have CZ:Hid (EL cs b 0=List.replicate (cs.length+1) 0):=Up cs b
 have PL:Hid (∀x,Ar cs x<=cs.length):=GH cs
 have FIN:Hid (∀(v:Value) (w1:World),Row w1 v (cs.length+1) (Ad (EL cs b b.length))->Calls Tryz.prog 131 #[v] w1 fun e w' =>∃r:Int,e= .returned (.int .i64 r)/\(Calls Tryz.prog 130 #[v, .int .i64 r] w1 fun e w' =>e= .returned (.int .i64 ((Ag cs b (cs.length+1)).1:Nat))/\w' =w1)/\w' =w1):=fun v w1 hr=>by
  have hl:=Gr cs b b.length
  rw[←hl] at hr
  refine(V5 v _ w1 hr (by omega) (fun i h=>by have:=CA.out b.length i (by omega);omega)).mono ?_
  rintro e w' ⟨r,rfl,h1,⟨j,h2,h3⟩,rfl⟩
  refine⟨r,rfl, ?_,rfl⟩
  have hat:∀i,i<cs.length+1->iAt (EL cs b b.length) i=((Am cs i b).length:Int):=fun i h=>by rw[Js _ _ _ _ h,List.take_length]
  obtain⟨m1,m2⟩:=Dm cs b (cs.length+1) (by omega)
  have hr2:(Ag cs b (cs.length+1)).2=r:=by
   have g1:=h1 _ (by rw[hl];exact m1)
   rw[hat _ m1, ← m2] at g1
   have g2:=J4 cs b (cs.length+1) j (by omega)
   rw[←hat j (by omega),h3] at g2
   omega
  exact Rw v _ r (Ag cs b (cs.length+1)).1 w' hr (by omega) (by rw[hat _ m1, ← m2,hr2]) (fun i h e=>by
   rw[hat i (by omega)] at e
   have:=Ov cs b (cs.length+1) i h
   omega)
 clear hc hb hs c0 c1 c2;generalize (Ag cs b (cs.length+1)).1=R at *
 have CZ2:Hid (List.replicate (cs.length+1) (Value.int .i64 0)=Ad (EL cs b 0)):=by
  show _=_
  rw[CZ.out];simp[Ad]
 generalize cs.length=nc at *
 generalize hbl:b.length=nb at *
 clear hbl;have hw1:IntKind.i64.wrap ((nc:Int)+1)=(nc:Int)+1:=by rw[IntKind.wrap_i64];omega
 go_enter Tryz.func118,Tryz.ntmps118
 go_wp2_with (at_make;refine wpList_make_full _ rfl _ _ 27 rfl w.heap.size 3 i0 _ 1 Tryz.underlying27 hi0 hz0 hz1 .i64 .i64 _ _ (nc+1) rfl rfl rfl rfl ?c1 ?c2 ?c3 ?_)
 case c1=>rw[hz2];omega
 case c2=>unfold maxLen;omega
 case c3=>exact Nat.le_refl _
 intro w0 hown0 hgrow0;have hb0:Below w.heap.size w w0:=(Below.refl _ _).grown hgrow0 (Nat.le_refl _) (fun k hk=>by cases hk)
 have O0:Hid (w0.ownsRow w.heap.size 3 1 (.slice (some ⟨w.heap.size,0,none⟩) (nc+1) (nc+1)) (nc+1) (Ad (EL cs b 0))):=by
  rw[MJ _ (.int .i64 0) (by decide) (fun i hi=>by match i,hi with|0,_=>rfl)] at hown0
  rw[←CZ2.out]
  show World.ownsRow _ _ _ _ _ _ _
  simpa using hown0
 have B0:Hid _:=hb0
 clear hgrow0 hown0 hb0 CZ CZ2;go_wp2;go_loopw [14] (fun ix wr=>∃k:Nat,k<=nb/\ix= .int .i64 k/\Hid (wr.ownsRow w.heap.size 3 1 (.slice (some ⟨w.heap.size,0,none⟩) (nc+1) (nc+1)) (nc+1) (Ad (EL cs b k)))/\Hid (Below w.heap.size w wr))
  (fun ix _=>nb-(intOf ix).toNat)
 case atStart=>exact⟨0,Nat.zero_le _,rfl,O0,B0⟩
 case round=>
  obtain⟨k,hkl,rfl,OW,BW⟩:=hrel
  clear O0 B0;by_cases hlt:k<nb
  ·have hal:=ha (by omega)
   subst hal;obtain⟨d0,d1,d2⟩:=MG.out k wr BW.out hlt
   have KK:=KA.out (mK b k)
   have CS1:=CS.out k hlt
   have hp:=PL.out (mK b k)
   have hca:=CA.out k (Ar cs (mK b k)) (by omega)
   generalize mO b k=x0 at *
   generalize mK b k=x1 at *
   generalize mV b k=x2 at *
   have KK2:Hid _:=KK
   have CS2:Hid _:=CS1
   clear KK CS1;generalize hpk:Ar cs x1=pk at *
   clear hpk;have hk0:(0:Int)<=(k:Int):=by omega
   have hkn:(k:Int)<(nb:Int):=by omega
   have BA:Hid (Below w.heap.size w (wr.alloc (.cells #[.int .i64 x0, .int .i64 x1, .int .i64 x2] 35))):=BW.out.alloc BW.out.size _
   have OA:Hid _:=AJ OW.out (al1 wr (.cells #[.int .i64 x0, .int .i64 x1, .int .i64 x2] 35))
   clear OW BW;go_wp2_with fail;refine Calls.mono (KK2.out _ BA.out) ?_
   rintro e w1 ⟨rfl,b1⟩
   have O1:=AJ OA.out b1
   have B1:Hid (Below w.heap.size w w1):=Below.and BA.out b1
   have hat:=Qw (EL cs b k) pk (by rw[CL.out];omega)
   have e0:=(O1.cellAt pk (by omega)).trans hat
   have f0:=O1.frozenAt pk
   have st:=(O1.stored pk (.int .i64 (iAt (EL cs b k) pk+1))).1
   rw[Uc, ← CS2.out] at st
   have ST:Hid _:=st
   generalize iAt (EL cs b k) pk=c0 at *
   have hp0:(0:Int)<=(pk:Int):=by omega
   have hpn:(pk:Int)<(nc:Int)+1:=by omega
   have hpn2:pk<nc+1:=by omega
   clear O1 hat st b1 d0 d1 d2;go_wp2;go_roundw
   case rel=>exact⟨k+1,by omega,by go_num,ST,B1.out.setCell (Nat.le_refl _) _⟩
   case measure=>simp[intOf];omega
  ·have hkk:k=nb:=by omega
   have hkn:¬((k:Int)<(nb:Int)):=by omega
   have FF:Hid _:=FIN.out _ wr (by have:=Row.of_owns OW.out;rw[hkk] at this;exact this)
   clear hkk;go_wp2_with fail;refine Calls.mono FF.out ?_
   rintro e w1 ⟨r,rfl,hI,rfl⟩
   have HI:Hid _:=hI
   clear hI;go_wp2_with fail;refine Calls.mono HI.out ?_
   rintro e w2 ⟨rfl,rfl⟩
   go_wp2;go_ret;exact⟨rfl,BW.out⟩
end
section
open Go.RowKit

open Go.Lib in
theorem UE (n:Nat) (w:World) (hn:n<=8388608) :
  Calls Tryz.prog 139 #[.slice none 0 0, .int .i64 n] w fun e w' =>∃v',e= .returned v' ∧w'.ownsRow w.heap.size 3 1 v' 0 []/\Below w.heap.size w w' :=by
 obtain⟨i0,hi0,hz0,hz1,hz2⟩:=info_parts Tryz.info3
 rcases Nat.eq_zero_or_pos n with rfl|hp
 ·go_enter Tryz.func139,Tryz.ntmps139
  go_wp2;go_ret;exact⟨_,rfl,World.ownsRow_nil _ _ _ _,Below.refl _ _⟩
 ·have hrz:∀ty,(Builtin.append_ #[27,3] ty #[.slice none 0 0, .int .i64 (n:Int)]).run Tryz.prog w =
    .ok (.slice (some ⟨w.heap.size,0,none⟩) n (grownCap w n 0 3)) (w.drew.alloc (.cells (#[]++Builtin.zeroCells (Value.int .i64 0).cells n++Builtin.zeroCells (Value.int .i64 0).cells (grownCap w n 0 3-n)) 3)):=fun ty=>by
   have h:=Lib.run_append_grow_zeros w 27 3 ty 3 i0 _ .i64 .i64 Tryz.underlying27 Tryz.underlying3 hi0 hz0 none 0 0 [] (run_firstCells_none w.drew i0.size 0 0 0) n hp (by rw[hz1];decide) (by omega) (by omega)
    (by rw[hz2];omega)
    (by rw[Nat.zero_add,hz2];exact growslice_fits hp (by omega))
   rw[Nat.zero_add] at h
   exact h
  have HRZ:Hid _:=hrz
  have hGn:n<=grownCap w n 0 3:=grownCap_ge w _ _ _
  have hG63:=grownCap_le_maxLen w n 0 3 (by unfold maxLen;omega)
  generalize grownCap w n 0 3=G at *
  have hb1:(0:Int)<(n:Int):=by omega
  have hb2:¬((n:Int)<0):=by omega
  have hgm:G<=9223372036854775807:=by
   have:=hG63
   unfold maxLen at this;omega
  have OW:Hid ((w.alloc (.cells (Builtin.zeroCells #[.int .i64 0] n++Builtin.zeroCells #[.int .i64 0] (G-n)) 3)).drew.ownsRow w.heap.size 3 1 (.slice (some ⟨w.heap.size,0,none⟩) 0 G) 0 []):=
   ⟨by simp, .inr ⟨w.heap.size,G,_,rfl,Nat.le_refl _,heap_alloc_new w _,Nat.zero_le _,hG63,by
    simp only[Array.size_append,size_zeroCells]
    show n*1+(G-n)*1=G*1
    omega,by simp⟩⟩
  clear hrz hG63;go_enter Tryz.func139,Tryz.ntmps139
  go_wp2_with (at_builtin;refine Lib.wpList_append_run _ rfl _ _ _ _ rfl _ _ rfl rfl _ _ (HRZ.out _) ?_)
  all_goals
   go_ret;exact⟨_,rfl,OW.out,((Below.refl _ _).alloc (Nat.le_refl _) _).drew⟩

theorem QQ (b off q:Nat) (P:List Pt) (w:World) (hq:P.length<=q) (hqm:q<=maxLen) (hp0:0<P.length) (hc:∀i,i<P.length->w.cell? ⟨b,off+i,none⟩=some (Ed P i).1) (hP:Xd w 1 P) (hn:ptN P P.length<=2097152) :
  Calls Tryz.prog 133 #[.slice (some ⟨b,off,none⟩) P.length q] w fun e w' =>∃v',e= .returned v' ∧w'.ownsRow w.heap.size 3 1 v' (ptN P P.length) (ptC P P.length)/\Below w.heap.size w w' :=by
 obtain⟨i0,hi0,hz0,hz1,hz2⟩:=info_parts Tryz.info3
 have HC:Hid _:=hc
 have HP:Hid (∀i,i<P.length->Row w (Ed P i).1 (Ed P i).2.1 (Ed P i).2.2/\(Ed P i).2.2.length=(Ed P i).2.1*1/\∀y∈(Ed P i).2.2,y.oneCell' =true):=hP
 have NS:Hid (∀j,j<P.length->ptN P (j+1)=ptN P j+(Ed P j).2.1):=fun j=>Lp P j
 have CS:Hid (∀j,j<P.length->ptC P (j+1)=ptC P j++(Ed P j).2.2):=fun j=>Qv P j
 have NL:Hid (∀j,j<=P.length->ptN P j<=2097152):=fun j hj=>Nat.le_trans (QW P j _ hj) hn
 have N0:Hid (ptN P 0=0):=rfl
 have C0:Hid (ptC P 0=[]):=rfl
 unfold maxLen at hqm;clear hc hP;generalize hk:P.length=k at *
 clear hk;go_enter Tryz.func133,Tryz.ntmps133
 go_wp2;go_loopw [3,11] (fun sz i wr=>w=wr/\∃(j s:Nat),i= .int .i64 j/\sz= .int .i64 s/\j<=k/\s<=2097152/\Hid (s=ptN P j)) (fun _ i _=>k-(intOf i).toNat)
 case atStart=>exact⟨rfl,0,0,rfl,rfl,Nat.zero_le _,Nat.zero_le _,N0.out.symm⟩
 case round=>
  obtain⟨rfl,j,s,rfl,rfl,hjk,hs,HS⟩:=hrel
  by_cases hlt:j<k
  ·obtain⟨hr, -⟩:=HP.out j (by omega)
   obtain⟨aj,qj,ej,_⟩:=hr.len
   have cj:=HC.out j hlt
   rw[ej] at cj
   have e1:=NS.out j hlt
   have e2:=NL.out (j+1) (by omega)
   have e3:=HS.out
   generalize (Ed P j).2.1=m at *
   have hm:s+m<=2097152:=by omega
   have HS2:Hid (s+m=ptN P (j+1)):=by show _=_;omega
   have hp:¬((s:Int)+(m:Int)<0):=by omega
   clear e1 e2 e3 hr ej;go_wp2;go_roundw
   case rel=>exact⟨trivial,j+1,s+m,by go_num,by go_num,by omega,hm,HS2⟩
   case measure=>simp[intOf];omega
  ·have hjk' :j=k:=by omega
   have HS2:Hid (s=ptN P k):=by show _=_;rw[←hjk'];exact HS.out
   have GA:Hid (Calls Tryz.prog 139 #[.slice none 0 0, .int .i64 s] w fun e w' =>∃v',e= .returned v' ∧w'.ownsRow w.heap.size 3 1 v' 0 []/\Below w.heap.size w w'):=UE s w (by omega)
   clear hjk' HS;go_wp2_with fail;refine Calls.mono GA.out ?_
   rintro e w2 ⟨v2,rfl,o2,hb2⟩
   obtain⟨a2,c2,hv2,_⟩:=(Row.of_owns o2).len
   subst hv2;have O2:Hid (w2.ownsRow w.heap.size 3 1 (.slice a2 0 c2) 0 []):=o2
   have B2:Hid (Below w.heap.size w w2):=hb2
   clear o2 hb2;go_wp2;go_loopw [6,27] (fun out i wr=>Hid (Below w.heap.size w wr)/\∃(j' m' c' :Nat) (a' :Option Addr),i= .int .i64 j' ∧j' <=k/\m' <=2097152/\out= .slice a' m' c' ∧Hid (m' =ptN P j')/\Hid (wr.ownsRow w.heap.size 3 1 (.slice a' m' c') m' (ptC P j'))) (fun _ i _=>k-(intOf i).toNat)
   case atStart=>exact⟨B2,0,0,c2,a2,rfl,Nat.zero_le _,Nat.zero_le _,rfl,N0.out.symm,by show World.ownsRow _ _ _ _ _ _ _;rw[C0.out];exact O2.out⟩
   case round=>
    obtain⟨BQ,j',m',c',a',rfl,hjk2,hm',rfl,HM,OQ⟩:=hrel
    clear O2 B2;by_cases hlt2:j' < k
    ·obtain⟨hr,hl,h1⟩:=HP.out j' (by omega)
     obtain⟨aj,qj,ej,_⟩:=hr.len
     have cj:=HC.out j' hlt2
     have e1:=NS.out j' hlt2
     have e2:=NL.out (j' +1) (by omega)
     have e3:=HM.out
     have e4:=CS.out j' hlt2
     rw[ej] at cj hr
     have d0:=Ab BQ.out (Aa cj) cj
     generalize (Ed P j').2.1=m at *
     generalize (Ed P j').2.2=X at *
     have HR:Hid (m' +m<=maxLen/\(m' +m)*8<=140737488355328):=⟨by unfold maxLen;omega,by omega⟩
     have RR:Hid _:=hr.below BQ.out
     have H1:Hid _:=h1
     have HL:Hid _:=hl
     have hm2:m' +m<=2097152:=by omega
     have HM2:Hid (m' +m=ptN P (j' +1)):=by show _=_;omega
     have E4:Hid _:=e4
     have hbs:w.heap.size<=wr.heap.size:=BQ.out.size
     clear e1 e2 e3 e4 hr hl h1 ej cj;go_wp2_with (at_builtin;refine E6 wr rfl _ _ 27 rfl w.heap.size 3 i0 _ 1 8 Tryz.underlying27 hi0 hz0 hz1 hz2 rfl (by decide) (.slice a' m' c') m' _ rfl OQ.out (.slice aj m qj) m X rfl RR.out HL.out H1.out HR.out.1 HR.out.2 hbs ?_)
     intro v5 w5 o5 _ b5;obtain⟨a5,c5,hv5,_⟩:=(Row.of_owns o5).len
     subst hv5;have FIN:Hid (w5.ownsRow w.heap.size 3 1 (.slice a5 (m' +m) c5) (m' +m) (ptC P (j' +1))/\Below w.heap.size w w5):=⟨by rw[E4.out];exact o5,BQ.out.trans b5⟩
     clear o5 b5 d0;go_wp2;go_roundw
     case rel=>exact⟨FIN.out.2,j' +1,m' +m,c5,a5,by go_num,by omega,hm2,rfl,HM2,FIN.out.1⟩
     case measure=>simp[intOf];omega
    ·have hjk' :j' =k:=by omega
     have FIN:Hid (wr.ownsRow w.heap.size 3 1 (.slice a' m' c') (ptN P k) (ptC P k)):=by
      have h1:=OQ.out
      have h2:=HM.out
      rw[hjk'] at h1 h2
      rw[h2] at h1 ⊢
      exact h1
     clear hjk';go_wp2;go_ret;exact⟨_,rfl,FIN.out,BQ.out⟩
end
section
open Go.RowKit

abbrev XG:Nat->Prop:=fun _=>True

theorem Ah.one {n:Nat} {w:World} {F:Nat->Prop} {v:Value} {x:TV} {T:Tr} (h:Aw n w F x T) (hr:Ao w F v 1 (Ap [x])):Ah n w F v [T]:=
 ⟨[x],rfl,hr,fun i hi=>by
  have e:i=0:=by simp at hi;omega
  subst e;exact h⟩

theorem Io (n:Nat) (F:Nat->Prop) (x:TV) (T:Tr) (w:World) (ht:Aw n w F x T) :
  Calls Tryz.prog 95 #[x.val] w fun e w' =>∃vt,e= .returned (.agg #[vt, .slice none 0 0])/\Ah n w' (fun g=>F g∨w.heap.size<=g) vt [T]/\Below w.heap.size w w' :=by
 obtain⟨a1,a2,a3,a4,q1,q2,q3,q4,hx⟩:=ht.treeAt.shape
 subst hx;have TT:Hid _:=ht
 clear ht;show Calls Tryz.prog 95 #[.agg #[.bool T.leaf, .slice a1 T.pairs.length q1, .slice a2 T.cuts.length q2, .slice a3 T.kids.length q3, .slice a4 T.buf.length q4]] w _
 generalize T.leaf=lf at *
 generalize T.pairs.length=n1 at *
 generalize T.cuts.length=n2 at *
 generalize T.kids.length=n3 at *
 generalize T.buf.length=n4 at *
 go_enter Tryz.func95,Tryz.ntmps95
 go_wp2;refine bodyPost_ret (v:= .agg #[.slice (some ⟨w.heap.size+1+1,0,none⟩) 1 1, .slice none 0 0]) (by simp[results,Tryz.results95,go_sem]) rfl ⟨_,rfl, ?_,al3 _ _ _ _⟩
 have h:=(TT.out.below (al3 w (.cells #[.bool lf, .slice a1 n1 q1, .slice a2 n2 q2, .slice a3 n3 q3, .slice a4 n4 q4] 30) (.cells #[.slice (some ⟨w.heap.size+1+1,0,none⟩) 1 1, .slice none 0 0] 65) (.cells #[.bool lf, .slice a1 n1 q1, .slice a2 n2 q2, .slice a3 n3 q3, .slice a4 n4 q4] 30))).mono (G:=fun g=>F g∨w.heap.size<=g) (fun g hg=> .inl hg)
 refine Ah.one h ((Ao.laid _ [.bool lf, .slice a1 n1 q1, .slice a2 n2 q2, .slice a3 n3 q3, .slice a4 n4 q4] 30 _ (by simp)).mono fun g hg=> .inr (by omega))

theorem Ra (lf:Bool) (a1 a2 a3 a4:Option Addr) (n1 n2 n3 n4 q1 q2 q3 q4:Nat) (w:World) :
  Calls Tryz.prog 98 #[.agg #[.bool lf, .slice a1 n1 q1, .slice a2 n2 q2, .slice a3 n3 q3, .slice a4 n4 q4]] w fun e w' =>e= .returned (.agg #[.slice a3 n3 q3, .slice a2 n2 q2])/\Below w.heap.size w w' :=by
 go_enter Tryz.func98,Tryz.ntmps98
 go_wp2;refine bodyPost_ret (v:= .agg #[.slice a3 n3 q3, .slice a2 n2 q2]) (by simp[results,Tryz.results98,go_sem]) rfl ⟨rfl,al2 _ _ _⟩
end
end Go.Proofs.YtadmomgdacfgpaaGreat
