/-
  Contracts of the program's way to leave out gets, and to leave out what is overruled.
  Who rules last, by a map of keys to places; plain mathematics.
  The contract of the program's way to leave out what is overruled.
  The program's way to join adds: what its map of puts tells; plain mathematics, and what lies apart in memory.
  The contract of the program's way to join adds.
-/
import Derived.Test.YtnakaabnjelffaaGreatOfInject37
import Derived.Test.YtnakaabnjelffaaGreatOfInject8
import Derived.Test.YtnakaabnjelffaaGreatOfInject20
import Derived.Test.YtnakaabnjelffaaGreatOfInject11
namespace Go.Proofs.YtnakaabnjelffaaGreat
set_option maxRecDepth 100000
set_option maxHeartbeats 8000000
section
open Go.RowKit

theorem VV (l:ML) (k:Nat) (h:k<l.length):wgF (l.take (k+1))=if (mO l k==4)=true then wgF (l.take k) else wgF (l.take k)++[(mO l k,mK l k,mV l k)]:=by
 rw[DZ l k h,wgF,List.filter_append]
 cases hq:mO l k==4
 ·have:mO l k≠4:=by simpa using hq
  simp[wgF,this]
 ·have:mO l k=4:=by simpa using hq
  simp[wgF,this]
theorem MR (l:ML):(wgF l).length<=l.length:=List.length_filter_le _ _
theorem Qw {l:ML} (h:∀m∈l,okM m=true) {k:Nat} (hk:k<l.length):okM (mO l k,mK l k,mV l k)=true:=by
 have:=h l[k] (List.getElem_mem hk);rwa [DV l k hk] at this

theorem Lo (vm:Value) (l:ML) (w:World) (hm:Row w vm l.length (l.map Cr)) (hok:∀m∈l,okM m=true) (hn:l.length<=2097152) :
  Calls Tryz.prog 117 #[vm] w fun e w' =>∃v',e= .returned v' ∧w'.ownsRow w.heap.size 119 1 v' (wgF l).length ((wgF l).map Cr)/\Below w.heap.size w w' :=by
 obtain⟨i0,hi,hz0,hz1,hz2⟩:=info_parts Tryz.info119
 obtain⟨a,b,off,cap,rfl,hcap,hmax,ha,hc⟩:=hm.changes
 unfold maxLen at hmax;have OK:Hid (∀m∈l,okM m=true):=hok
 clear hm hok;go_enter Tryz.func117,Tryz.ntmps117
 go_wp2;go_loopw [3,8] (fun out i wr=>∃k:Nat,k<=l.length/\i= .int .i64 k/\Hid (wr.ownsRow w.heap.size 119 1 out (wgF (l.take k)).length ((wgF (l.take k)).map Cr))/\Hid (Below w.heap.size w wr))
  (fun _ i _=>l.length-(intOf i).toNat)
 case atStart=>exact⟨0,Nat.zero_le _,rfl,World.ownsRow_nil _ _ _ _,Below.refl _ _⟩
 case round=>
  obtain⟨k,hkl,rfl,hown,hb⟩:=hrel
  by_cases hlt:k<l.length
  ·have hal:=ha (by omega)
   subst hal;have d0:=(hb.out.cell (by exact Aa (hc k hlt))).trans (hc k hlt)
   obtain⟨t,x,f,g,CH⟩:=Pq (Qw OK.out hlt)
   have CHH:Hid _:=CH
   obtain⟨z,t107⟩:=CH.t107
   rw[CH.enc] at d0
   have hds:=VV l k hlt
   have hal:=MR (l.take k)
   have htl:(l.take k).length<=k:=List.length_take_le _ _
   generalize wgF (l.take k)=A at *
   have OW:Hid (wr.ownsRow w.heap.size 119 1 u3 A.length (A.map Cr)):=hown
   clear hc CH hown;simp only at t107
   cases hq:(mO l k==4)
   ·rw[hq] at t107
    have DS:Hid _:=hds.trans (if_neg (by rw[hq];decide))
    clear hds hq;have OW1:=OW.out
    have HR:Hid _:=Bl (n:=A.length) (bytes:=16) (by omega) (by decide)
    have H1:Hid (∀u∈[Value.iface t x],u.oneCell' =true):=fun u hu=>by simp at hu;subst hu;rfl
    have hbs:=hb.out.size
    go_wp2_with (at_builtin;refine BI wr rfl _ _ 116 rfl w.heap.size 119 i0 _ 1 16 Tryz.underlying116 hi hz0 hz1 hz2 rfl (by decide) u3 _ _ rfl OW1 [.iface t x] rfl rfl H1.out HR.out.1 HR.out.2 hbs ?_)
    intro v3 w3 ho3 _ hb3;have FIN:Hid _:=And.intro ho3 (hb.out.trans hb3)
    clear OW1 hb3 ho3;go_wp2;go_roundw
    case rel=>exact⟨k+1,by omega,by go_num,by rw[DS.out,List.length_append,List.map_append,List.map_cons,CHH.out.enc];exact FIN.out.1,FIN.out.2⟩
    case measure=>simp[intOf];omega
   ·rw[hq] at t107
    have DS:Hid _:=hds.trans (if_pos hq)
    clear hds hq;go_wp2;go_roundw
    case rel=>exact⟨k+1,by omega,by go_num,by rw[DS.out];exact OW,hb⟩
    case measure=>simp[intOf];omega
  ·go_wp2;go_ret;have hkk:k=l.length:=by omega
   subst hkk;rw[List.take_of_length_le (Nat.le_refl _)] at hown
   exact⟨_,rfl,hown.out,hb.out⟩
end
section
def GS (l:ML) (k:Nat):Bool:=(mO l k==1)||(mO l k==2)
def BJ (l:ML):Nat->PL
 |0=>[]
 |k+1=>if GS l k=true then B9 (BJ l k) (mK l k) k else BJ l k

theorem Ld {l:ML} (hok:∀m∈l,okM m=true):∀k,k<=l.length->k<=1000000000->CJ (BJ l k)
 |0,_,_=>⟨List.Pairwise.nil,fun p hp=>by simp[BJ] at hp⟩
 |k+1,h,h2=>by
  rw[BJ]
  have ih:=Ld hok k (by omega) (by omega)
  split
  ·have hm:=hok l[k] (List.getElem_mem (by omega))
   rw[DV l k (by omega)] at hm
   exact IA ih (CG hm).2.1 (by omega)
  ·exact ih

theorem Mm (l:ML) (x:Int) (hA:∀k,Asc (BJ l k)):∀k,
  ((AE (BJ l k) x).2=true->∃j:Nat,j<k/\(AE (BJ l k) x).1=j/\mK l j=x/\GS l j=true/\∀j',j<j' ->j' < k->mK l j' =x->GS l j' =false)∧
  ((AE (BJ l k) x).2=false->∀j,j<k->mK l j=x->GS l j=false)
 |0=>⟨fun h=>by simp[BJ,AE] at h,fun _ j hj=>by omega⟩
 |k+1=>by
  obtain⟨h1,h2⟩:=Mm l x hA k
  rw[BJ]
  cases hr:GS l k
  ·simp only[Bool.false_eq_true,if_false]
   refine⟨fun h=> ?_,fun h j hj he=> ?_⟩
   ·obtain⟨j,g1,g2,g3,g4,g5⟩:=h1 h
    refine⟨j,by omega,g2,g3,g4,fun j' q1 q2 q3=> ?_⟩
    by_cases e:j' =k
    ·subst e;exact hr
    ·exact g5 j' q1 (by omega) q3
   ·by_cases e:j=k
    ·subst e;exact hr
    ·exact h2 h j (by omega) he
  ·simp only[if_true]
   by_cases hx:x=mK l k
   ·subst hx;rw[Dn (hA k)]
    refine⟨fun _=>⟨k,by omega,rfl,rfl,hr,fun j' q1 q2=>by omega⟩,fun h=>by cases h⟩
   ·rw[Ct (hA k) hx]
    refine⟨fun h=> ?_,fun h j hj he=> ?_⟩
    ·obtain⟨j,g1,g2,g3,g4,g5⟩:=h1 h
     refine⟨j,by omega,g2,g3,g4,fun j' q1 q2 q3=> ?_⟩
     by_cases e:j' =k
     ·subst e;exact absurd q3.symm hx
     ·exact g5 j' q1 (by omega) q3
    ·by_cases e:j=k
     ·subst e;exact absurd he.symm hx
     ·exact h2 h j (by omega) he

theorem VG (l:ML) (i:Nat) (x:Int):Hf (l.drop i) x=true↔∃j,i<=j/\j<l.length/\mK l j=x/\GS l j=true:=by
 rw[Hf,List.any_eq_true]
 constructor
 ·rintro⟨m,hm,hq⟩
  obtain⟨j,hj,rfl⟩:=List.getElem_of_mem hm
  rw[List.length_drop] at hj
  rw[List.getElem_drop,DV l (i+j) (by omega)] at hq
  simp only[Bool.and_eq_true,beq_iff_eq] at hq
  exact⟨i+j,by omega,by omega,hq.1,hq.2⟩
 ·rintro⟨j,h1,h2,h3,h4⟩
  refine⟨(mO l j,mK l j,mV l j), ?_,by simp only[Bool.and_eq_true,beq_iff_eq];exact⟨h3,h4⟩⟩
  rw[←DV l j h2]
  have:l[j]=(l.drop i)[j-i]'(by rw[List.length_drop];omega):=by rw[List.getElem_drop];congr 1;omega
  rw[this]
  exact List.getElem_mem _

theorem WN {l:ML} (hA:∀k,Asc (BJ l k)) {i:Nat} (x:Int) :
  Hf (l.drop (i+1)) x=((AE (BJ l l.length) x).2&& !(decide ((i:Int)>=(AE (BJ l l.length) x).1))):=by
 obtain⟨h1,h2⟩:=Mm l x hA l.length
 rw[Bool.eq_iff_iff,VG,Bool.and_eq_true,Bool.not_eq_true',decide_eq_false_iff_not]
 constructor
 ·rintro⟨j,g1,g2,g3,g4⟩
  cases hr:(AE (BJ l l.length) x).2
  ·have:=h2 hr j g2 g3;rw[g4] at this;cases this
  ·obtain⟨n,q1,q2,q3,q4,q5⟩:=h1 hr
   refine⟨rfl, ?_⟩
   rw[q2]
   intro hle;have:=q5 j (by omega) g2 g3
   rw[g4] at this;cases this
 ·rintro⟨hr,hlt⟩
  obtain⟨n,q1,q2,q3,q4,q5⟩:=h1 hr
  rw[q2] at hlt
  exact⟨n,by omega,q1,q3,q4⟩

theorem Yc (l:ML) (k:Nat) (h:k<l.length):woF (l.drop k)=if Hf (l.drop (k+1)) (mK l k)=true then woF (l.drop (k+1)) else (mO l k,mK l k,mV l k)::woF (l.drop (k+1)):=by
 rw[Hg l k h,woF]
theorem Xt (l:ML):∀m∈woF l,m∈l:=by
 induction l with
 |nil=>intro m hm;simp[woF] at hm
 |cons p l ih=>
  intro m hm;rw[woF] at hm
  split at hm
  ·simp[ih m hm]
  ·rcases List.mem_cons.1 hm with rfl|hm
   ·simp
   ·simp[ih m hm]
theorem Sv (l:ML):(woF l).length<=l.length:=by
 induction l with
 |nil=>simp[woF]
 |cons p l ih=>rw[woF];split<;>simp<;>omega
end
section
open Go.RowKit

theorem Fk (l:ML):∀k,Asc (BJ l k)
 |0=>List.Pairwise.nil
 |k+1=>by rw[BJ];split;exact Mq (Fk l k) _ _;exact Fk l k

theorem Oh (B:Nat) (F:Nat->Prop) (l:PL) (k:Int) (w:World) (h:DW w B F l) (hs:Asc l) (hbig:l.length<=1048576) :
  Calls Tryz.prog 113 #[.pointer (some ⟨B,0,none⟩), .int .i64 k] w fun e w' =>e= .returned (.tuple #[.int .i64 (AE l k).1, .bool (AE l k).2])/\Below w.heap.size w w':=
 (TQ B F l k w h hs hbig).mono fun _ _ ⟨he,q,hq⟩=>⟨he,hq ▸ below_drewN (Below.refl _ _) q⟩

theorem Hz (vm:Value) (l:ML) (w:World) (hm:Row w vm l.length (l.map Cr)) (hok:∀m∈l,okM m=true) (hn:l.length<=2097152) :
  Calls Tryz.prog 116 #[vm] w fun e w' =>∃v',e= .returned v' ∧w'.ownsRow w.heap.size 119 1 v' (woF l).length ((woF l).map Cr)/\Below w.heap.size w w' :=by
 obtain⟨i0,hi,hz0,hz1,hz2⟩:=info_parts Tryz.info119
 obtain⟨a,b,off,cap,rfl,hcap,hmax,ha,hc⟩:=hm.changes
 unfold maxLen at hmax;have OK:Hid (∀m∈l,okM m=true):=hok
 have HC:Hid _:=hc
 have RMAP:Hid (∀k,k<=l.length->CJ (BJ l k)):=fun k hk=>Ld OK.out k hk (by omega)
 have b0:Below w.heap.size w (w.alloc (.cells #[.slice none 0 0, .slice none 0 0] 114)):=(Below.refl _ _).alloc (Nat.le_refl _) _
 have START:Hid (DW (w.alloc (.cells #[.slice none 0 0, .slice none 0 0] 114)) w.heap.size (fun g=>g=w.heap.size) []):=
  ⟨.slice none 0 0, .slice none 0 0,heap_alloc_new _ _,World.ownsRow_nil _ _ _ _,World.ownsRow_nil _ _ _ _,fun g hg=>by simp[Value.ownBlock] at hg,rfl,fun g hg=>by simp[Value.ownBlock] at hg,fun g hg=>by simp[Value.ownBlock] at hg⟩
 have BB:Hid _:=b0
 clear hm hok b0 hc;go_enter Tryz.func116,Tryz.ntmps116
 go_wp2;generalize hW0:w.alloc (.cells #[.slice none 0 0, .slice none 0 0] 114)=W0 at *
 clear hW0;go_loopw [13] (fun i wr=>∃(k:Nat) (F:Nat->Prop),k<=l.length/\i= .int .i64 k/\Hid (DW wr w.heap.size F (BJ l k))/\Hid (∀g,F g->w.heap.size<=g)/\Hid (Below w.heap.size w wr))
  (fun i _=>l.length-(intOf i).toNat)
 case atStart=>exact⟨0,_,Nat.zero_le _,rfl,START,fun g hg=>by omega,BB.out⟩
 case round=>
  obtain⟨k,F,hkl,rfl,hsrt,hF,hb⟩:=hrel
  by_cases hlt:k<l.length
  ·have hal:=ha (by omega)
   subst hal;have d0:=(hb.out.cell (by exact Aa (HC.out k hlt))).trans (HC.out k hlt)
   obtain⟨t,x,f,g,CH⟩:=Pq (Qw OK.out hlt)
   have CHH:Hid _:=CH
   obtain⟨z1,t99⟩:=CH.t99
   obtain⟨z2,t105⟩:=CH.t105
   have hmk:=CH.hk
   have hek:=CH.ek
   rw[CH.enc] at d0
   have RM:=RMAP.out k hkl
   have hRl:=Fz RM
   have NEXT:Hid (BJ l (k+1)=if GS l k=true then B9 (BJ l k) (mK l k) k else BJ l k):=rfl
   clear CH RM;simp only at t99 t105
   by_cases hr:GS l k=true
   ·have hq:(mO l k==1)=true∨((mO l k==1)=false/\(mO l k==2)=true):=by
     simp only[GS,Bool.or_eq_true] at hr
     cases h1:(mO l k==1)
     ·rw[h1] at hr;simp at hr;exact Or.inr ⟨rfl,by simpa using hr⟩
     ·exact Or.inl rfl
    have NX:Hid _:=NEXT.out.trans (if_pos hr)
    clear hr NEXT;have key:∀wn,Below wr.heap.size wr wn->Hid (DW wn w.heap.size F (BJ l k)):=fun wn hwn=>hsrt.out.below hwn
    have KEY:Hid _:=key
    clear key;rcases hq with q1|⟨q1,q2⟩
    ·rw[q1] at t99
     clear q1;go_wp2_with fail;refine(CHH.out.ck _).mono ?_
     rintro e w1 ⟨rfl,b1⟩
     have B1:Hid _:=b1
     clear b1;go_wp2_with fail;refine(Il w.heap.size F (BJ l k) _ _ _ (KEY.out _ B1.out).out (Fk l k) (by omega)).mono ?_
     rintro e w2 ⟨rfl,F',h1,h2,h3⟩
     have FIN:Hid _:=And.intro h1 (And.intro (show ∀g',F' g' ->w.heap.size<=g' from fun g' hg' =>(h3 g' hg').elim (fun hh=>hF.out g' hh) (fun hh=>by have:=hb.out.size;have:=B1.out.size;omega)) ((Below.and hb.out B1.out).trans (h2.below (fun g' _ hg' =>hF.out g' hg') (by have:=hb.out.size;have:=B1.out.size;omega))))
     clear h1 h2 h3;go_wp2;go_roundw
     case rel=>exact⟨k+1,F',by omega,by go_num,by rw[NX.out];exact FIN.out.1,FIN.out.2.1,FIN.out.2.2⟩
     case measure=>simp[intOf];omega
    ·rw[q1] at t99
     rw[q2] at t105
     clear q1 q2;go_wp2_with fail;refine(CHH.out.ck _).mono ?_
     rintro e w1 ⟨rfl,b1⟩
     have B1:Hid _:=b1
     clear b1;go_wp2_with fail;refine(Il w.heap.size F (BJ l k) _ _ _ (KEY.out _ B1.out).out (Fk l k) (by omega)).mono ?_
     rintro e w2 ⟨rfl,F',h1,h2,h3⟩
     have FIN:Hid _:=And.intro h1 (And.intro (show ∀g',F' g' ->w.heap.size<=g' from fun g' hg' =>(h3 g' hg').elim (fun hh=>hF.out g' hh) (fun hh=>by have:=hb.out.size;have:=B1.out.size;omega)) ((Below.and hb.out B1.out).trans (h2.below (fun g' _ hg' =>hF.out g' hg') (by have:=hb.out.size;have:=B1.out.size;omega))))
     clear h1 h2 h3;go_wp2;go_roundw
     case rel=>exact⟨k+1,F',by omega,by go_num,by rw[NX.out];exact FIN.out.1,FIN.out.2.1,FIN.out.2.2⟩
     case measure=>simp[intOf];omega
   ·have q1:(mO l k==1)=false:=by
     cases h1:(mO l k==1)
     ·rfl
     ·exact absurd (show GS l k=true by simp[GS,h1]) hr
    have q2:(mO l k==2)=false:=by
     cases h1:(mO l k==2)
     ·rfl
     ·exact absurd (show GS l k=true by simp[GS,h1]) hr
    have NX:Hid _:=NEXT.out.trans (if_neg hr)
    clear hr NEXT;rw[q1] at t99
    rw[q2] at t105
    clear q1 q2;go_wp2;go_roundw
    case rel=>exact⟨k+1,F,by omega,by go_num,by rw[NX.out];exact hsrt,hF,hb⟩
    case measure=>simp[intOf];omega
  ·have hkk:k=l.length:=by omega
   subst hkk;have RM:=RMAP.out l.length (Nat.le_refl _)
   have hRl:=Fz RM
   have KI:Hid _:= @WN l (Fk l)
   have RA:Hid _:=Fk l l.length
   generalize BJ l l.length=R at *
   clear RM RMAP START BB hF;obtain⟨wA,rfl⟩:∃x,x=wr:=⟨_,rfl⟩
   go_wp2;go_loopw [6,33] (fun out i w5=>∃(k:Nat) (A:ML),k<=l.length/\i= .int .i64 k/\A.length<=k/\Hid (A++woF (l.drop k)=woF l)/\Hid (w5.ownsRow wA.heap.size 119 1 out A.length (A.map Cr))/\Hid (Below wA.heap.size wA w5))
    (fun _ i _=>l.length-(intOf i).toNat)
   case atStart=>exact⟨0,[],Nat.zero_le _,rfl,Nat.le_refl _,rfl,World.ownsRow_nil _ _ _ _,Below.refl _ _⟩
   case round=>
    obtain⟨k,A,hkl,rfl,hAl,hwo,hown,hb5⟩:=hrel
    by_cases hlt:k<l.length
    ·have hal:=ha (by omega)
     subst hal;have bw:Hid (Below w.heap.size w wr):=Below.and hb.out hb5.out
     have d0:=(bw.out.cell (by exact Aa (HC.out k hlt))).trans (HC.out k hlt)
     obtain⟨t,x,f,g,CH⟩:=Pq (Qw OK.out hlt)
     have CHH:Hid _:=CH
     have hmk:=CH.hk
     have hek:=CH.ek
     rw[CH.enc] at d0
     have WS:=Yc l k hlt
     rw[KI.out (i:=k) (mK l k)] at WS
     have WSH:Hid _:=WS
     clear CH WS;go_wp2_with fail;refine(CHH.out.ck _).mono ?_
     rintro e w6 ⟨rfl,b6⟩
     have B6:Hid _:=Below.and hb5.out b6
     have O6:Hid _:=AJ hown.out b6
     clear b6;go_wp2_with fail;refine(Oh w.heap.size F R _ _ (hsrt.out.below B6.out) RA.out (by omega)).mono ?_
     rintro e w7 ⟨rfl,b7⟩
     have B7:Hid _:=Below.and B6.out b7
     have O7:Hid (w7.ownsRow wA.heap.size 119 1 u6 A.length (A.map Cr)):=AJ O6.out b7
     clear b7 O6 B6;simp only
     have hcs:((AE R (mK l k)).2=false/\((AE R (mK l k)).2&& !(decide ((k:Int)>=(AE R (mK l k)).1)))=false)∨((AE R (mK l k)).2=true/\decide ((k:Int)>=(AE R (mK l k)).1)=true/\((AE R (mK l k)).2&& !(decide ((k:Int)>=(AE R (mK l k)).1)))=false)∨((AE R (mK l k)).2=true/\decide ((k:Int)>=(AE R (mK l k)).1)=false/\((AE R (mK l k)).2&& !(decide ((k:Int)>=(AE R (mK l k)).1)))=true):=by
      cases (AE R (mK l k)).2<;>cases decide ((k:Int)>=(AE R (mK l k)).1)<;>simp
     generalize (AE R (mK l k)).1=g1 at *
     generalize (AE R (mK l k)).2=g2 at *
     have HR:Hid _:=Bl (n:=A.length) (bytes:=16) (by omega) (by decide)
     have H1:Hid (∀u∈[Value.iface t x],u.oneCell' =true):=fun u hu=>by simp at hu;subst hu;rfl
     have hbs:wA.heap.size<=w7.heap.size:=B7.out.size
     rcases hcs with⟨rfl,q⟩|⟨rfl,q1,q⟩|⟨rfl,q1,q⟩
     ·have NX:Hid _:=WSH.out.trans (if_neg (by rw[q];decide))
      clear q;have OW:=O7.out
      go_wp2_with (at_builtin;refine BI w7 rfl _ _ 116 rfl wA.heap.size 119 i0 _ 1 16 Tryz.underlying116 hi hz0 hz1 hz2 rfl (by decide) u6 _ _ rfl OW [.iface t x] rfl rfl H1.out HR.out.1 HR.out.2 hbs ?_)
      intro v8 w8 ho8 _ hb8;have FIN:Hid _:=And.intro ho8 (B7.out.trans hb8)
      clear OW hb8 ho8;go_wp2;go_roundw
      case rel=>exact⟨k+1,A++[(mO l k,mK l k,mV l k)],by omega,by go_num,by simp;omega,by rw[NX.out] at hwo;show _=_;rw[List.append_assoc];exact hwo.out,by rw[List.length_append,List.map_append,List.map_cons,CHH.out.enc];exact FIN.out.1,FIN.out.2⟩
      case measure=>simp[intOf];omega
     ·have NX:Hid _:=WSH.out.trans (if_neg (by rw[q];decide))
      clear q;have OW:=O7.out
      go_wp2_with (at_builtin;refine BI w7 rfl _ _ 116 rfl wA.heap.size 119 i0 _ 1 16 Tryz.underlying116 hi hz0 hz1 hz2 rfl (by decide) u6 _ _ rfl OW [.iface t x] rfl rfl H1.out HR.out.1 HR.out.2 hbs ?_)
      intro v8 w8 ho8 _ hb8;have FIN:Hid _:=And.intro ho8 (B7.out.trans hb8)
      clear OW hb8 ho8;go_wp2;go_roundw
      case rel=>exact⟨k+1,A++[(mO l k,mK l k,mV l k)],by omega,by go_num,by simp;omega,by rw[NX.out] at hwo;show _=_;rw[List.append_assoc];exact hwo.out,by rw[List.length_append,List.map_append,List.map_cons,CHH.out.enc];exact FIN.out.1,FIN.out.2⟩
      case measure=>simp[intOf];omega
     ·have NX:Hid _:=WSH.out.trans (if_pos q)
      clear q;go_wp2;go_roundw
      case rel=>exact⟨k+1,A,by omega,by go_num,by omega,by rw[NX.out] at hwo;exact hwo,O7,B7⟩
      case measure=>simp[intOf];omega
    ·have hkk:k=l.length:=by omega
     subst hkk;have E:A=woF l:=by have:=hwo.out;rw[List.drop_length,woF,List.append_nil] at this;exact this
     subst E;have FIN:Hid _:=And.intro (AR hown.out hb.out.size) (Below.and hb.out hb5.out)
     clear hown;go_wp2;go_ret;exact⟨_,rfl,FIN.out.1,FIN.out.2⟩
end
section
open Go.RowKit

def Me (A:ML) (P:PL):Prop:=∀x,(AE P x).2=true->∃n:Nat,(AE P x).1=n/\n<A.length/\mO A n=1/\mK A n=x
theorem Jr {A:ML} {m:Int × Int × Int} {n:Nat} (h:n<A.length):mK (A++[m]) n=mK A n:=by simp[mK,List.getD,List.getElem?_append_left h]
theorem Qg {A:ML} {m:Int × Int × Int}:mK (A++[m]) A.length=m.2.1:=by simp[mK,List.getD]
theorem Me.app {A:ML} {P:PL} (h:Me A P) (m:Int × Int × Int):Me (A++[m]) P:=by
 intro x hx;obtain⟨n,h1,h2,h3,h4⟩:=h x hx
 exact⟨n,h1,by simp;omega,by rw[Ea h2];exact h3,by rw[Jr h2];exact h4⟩
theorem Me.put {A:ML} {P:PL} (h:Me A P) (hP:Asc P) (k v:Int):Me (A++[(1,k,v)]) (B9 P k A.length):=by
 intro x hx;by_cases he:x=k
 ·subst he;rw[Dn hP]
  exact⟨A.length,rfl,by simp,Hp,Qg⟩
 ·rw[Ct hP he] at hx ⊢
  obtain⟨n,h1,h2,h3,h4⟩:=h x hx
  exact⟨n,h1,by simp;omega,by rw[Ea h2];exact h3,by rw[Jr h2];exact h4⟩
theorem Me.set {A:ML} {P:PL} (h:Me A P) {n:Nat} (hn:n<A.length) (k v:Int) (hk:mK A n=k):Me (A.set n (1,k,v)) P:=by
 intro x hx;obtain⟨j,h1,h2,h3,h4⟩:=h x hx
 refine⟨j,h1,by simpa using h2, ?_, ?_⟩
 ·by_cases e:n=j
  ·subst e;simp[mO,List.getD,hn]
  ·rw[mO,List.getD,List.getElem?_set_ne e];exact h3
 ·by_cases e:n=j
  ·subst e;simp[mK,List.getD,hn];omega
  ·rw[mK,List.getD,List.getElem?_set_ne e];exact h4
theorem Xh {A:ML} (h:∀a∈A,okM a=true) {m:Int × Int × Int} (hm:okM m=true):∀a∈A++[m],okM a=true:=by
 intro a ha;rcases List.mem_append.1 ha with h1|h1
 ·exact h a h1
 ·simp at h1;subst h1;exact hm
theorem Xp {A:ML} (h:∀a∈A,okM a=true) {m:Int × Int × Int} (hm:okM m=true) (n:Nat):∀a∈A.set n m,okM a=true:=by
 intro a ha;rcases List.mem_or_eq_of_mem_set ha with h1|h1
 ·exact h a h1
 ·subst h1;exact hm

theorem UO (A:ML) (P:PL) (k v:Int):DE (A,P) (1,k,v)=(A++[(1,k,v)],B9 P k A.length):=by simp[DE]
theorem Us {A:ML} {P:PL} {k:Int} (v:Int) {n:Nat} (h:(AE P k).2=true) (hn:(AE P k).1=n):DE (A,P) (3,k,v)=(A.set n (1,k,Bg (mV A n+v)),P):=by simp[DE,h,hn]
theorem SE {A:ML} {P:PL} {o k v:Int} (h1:o≠1) (h:¬(o=3/\(AE P k).2=true)):DE (A,P) (o,k,v)=(A++[(o,k,v)],P):=by
 rw[DE,if_neg h1,if_neg h]
theorem Ns (l:ML) (k:Nat) (h:k<l.length) (s:ML × PL):(l.drop k).foldl DE s=(l.drop (k+1)).foldl DE (DE s (mO l k,mK l k,mV l k)):=by
 rw[Hg l k h,List.foldl_cons]

theorem DW.pack {w:World} {B N:Nat} {F:Nat->Prop} {P:PL} (h:DW w B F P) (hF:∀g,F g->N<=g) {base n:Nat} {v:Value} {xs:List Value} (ho:w.ownsRow base 119 1 v n xs) :
  ∃G:Nat->Prop,DW w B G P/\(∀g,G g->N<=g)/\(∀g,G g->v.ownBlock≠some g):=by
 obtain⟨kv,vv,h1,h2,h3,h4,h5,h6,h7⟩:=h
 have key:∀(u:Value) (m:Nat) (ys:List Value),w.ownsRow 0 3 1 u m ys->∀g,u.ownBlock=some g->∃cur,w.heap[g]? =some (.cells cur 3 (0,0)):=by
  intro u m ys hu g hg;obtain⟨_,⟨rfl,_⟩|⟨g',cap,cur,rfl,_,hh,_⟩⟩:=hu
  ·simp[Value.ownBlock] at hg
  ·simp[Value.ownBlock] at hg;subst hg;exact⟨cur,hh⟩
 have apart:∀g,v.ownBlock=some g->∃cur,w.heap[g]? =some (.cells cur 119 (0,0)):=by
  intro g hg;obtain⟨_,⟨rfl,_⟩|⟨g',cap,cur,rfl,_,hh,_⟩⟩:=ho
  ·simp[Value.ownBlock] at hg
  ·simp[Value.ownBlock] at hg;subst hg;exact⟨cur,hh⟩
 refine⟨fun g=>g=B∨kv.ownBlock=some g∨vv.ownBlock=some g,⟨kv,vv,h1,h2,h3,h4,Or.inl rfl,fun g hg=>Or.inr (Or.inl hg),fun g hg=>Or.inr (Or.inr hg)⟩, ?_, ?_⟩
 ·rintro g (rfl|hg|hg)
  ·exact hF _ h5
  ·exact hF _ (h6 g hg)
  ·exact hF _ (h7 g hg)
 ·rintro g hG hg
  obtain⟨c,hc⟩:=apart g hg
  rcases hG with rfl|hG|hG
  ·rw[h1] at hc;simp at hc
  ·obtain⟨c',hc'⟩:=key _ _ _ h2 g hG
   rw[hc'] at hc;simp at hc
  ·obtain⟨c',hc'⟩:=key _ _ _ h3 g hG
   rw[hc'] at hc;simp at hc
end
section
open Go.RowKit

structure JSt (w:World) (l:ML) (k:Nat) (A:ML) (P:PL) (F:Nat->Prop) (out:Value) (wr:World):Prop where
 len:A.length<=k
 fold:((l.drop k).foldl DE (A,P)).1=Ll l
 srt:DW wr w.heap.size F P
 ge:∀g,F g->w.heap.size<=g
 ap:∀g,F g->out.ownBlock≠some g
 mp:CJ P
 inv:Me A P
 ok:∀a∈A,okM a=true
 own:wr.ownsRow w.heap.size 119 1 out A.length (A.map Cr)
 bel:Below w.heap.size w wr

theorem JSt.app {w:World} {l:ML} {k:Nat} {A:ML} {P P' :PL} {F F1:Nat->Prop} {out:Value} {wr W:World} (h:JSt w l k A P F out wr) (hk:k<l.length)
  (hm:okM (mO l k,mK l k,mV l k)=true) (hs:DW W w.heap.size F1 P') (hge:∀g,F1 g->w.heap.size<=g) (hap:∀g,F1 g->out.ownBlock≠some g) (mp:CJ P') (inv:Me (A++[(mO l k,mK l k,mV l k)]) P')
  (stp:DE (A,P) (mO l k,mK l k,mV l k)=(A++[(mO l k,mK l k,mV l k)],P')) (bW:Below w.heap.size w W)
  {v' :Value} {w' :World} (ho:w'.ownsRow w.heap.size 119 1 v' (A.length+1) (A.map Cr++[Cr (mO l k,mK l k,mV l k)])) (hc:Chg (fun g=>out.ownBlock=some g) W w') (hb:Below w.heap.size W w') :
  ∃G,JSt w l (k+1) (A++[(mO l k,mK l k,mV l k)]) P' G v' w' :=by
 obtain⟨G,g1,g2,g3⟩:=DW.pack (Srt.chg hs hc (fun g hF e=>hap g hF e)) hge ho
 have hf:=h.fold
 rw[Ns l k hk,stp] at hf
 exact⟨G,by have:=h.len;simp;omega,hf,g1,g2,g3,mp,inv,Xh h.ok hm,by rw[List.length_append,List.map_append];exact ho,bW.trans hb⟩

theorem JSt.join {w:World} {l:ML} {k:Nat} {A:ML} {P:PL} {F:Nat->Prop} {out:Value} {wr W:World} (h:JSt w l k A P F out wr) (hk:k<l.length)
  {n:Nat} (hn:n<A.length) {kk vv:Int} (hm:(mO l k,mK l k,mV l k)=(3,kk,vv)) (hkn:mK A n=kk) (hkk:0<=kk/\kk<=999) (stp:DE (A,P) (3,kk,vv)=(A.set n (1,kk,Bg (mV A n+vv)),P)) (bW:Below wr.heap.size wr W)
  (g:Nat) (hg:out.ownBlock=some g) (hgw:w.heap.size<=g)
  (ho:(W.setCell ⟨g,n,none⟩ (Cr (1,kk,Bg (mV A n+vv)))).ownsRow w.heap.size 119 1 out A.length ((A.map Cr).set n (Cr (1,kk,Bg (mV A n+vv))))) :
  JSt w l (k+1) (A.set n (1,kk,Bg (mV A n+vv))) P F out (W.setCell ⟨g,n,none⟩ (Cr (1,kk,Bg (mV A n+vv)))):=by
 have hf:=h.fold
 rw[Ns l k hk,hm,stp] at hf
 have hc:Chg (fun g' =>g' =g) W (W.setCell ⟨g,n,none⟩ (Cr (1,kk,Bg (mV A n+vv)))):=Chg.setAt (F:=fun g' =>g' =g) (Chg.refl _ _) _ _ rfl _
 refine⟨by have:=h.len;simp;omega,hf,Srt.chg (h.srt.below bW) hc (fun g' hF e=>h.ap g' hF (by rw[e];exact hg)),h.ge,h.ap,h.mp,h.inv.set hn _ _ hkn,Xp h.ok (Tt _ _ hkk (KQ _)) n, ?_, ?_⟩
 ·rw[List.length_set,List.map_set];exact ho
 ·exact(Below.and h.bel bW).trans (hc.below (fun g' _ e=>by omega) (Nat.le_trans h.bel.size bW.size))

theorem VJ (a b c:Int) (w:World):(Instr.field 31 (.agg #[.int .i64 a, .int .i64 b, .int .i64 c]) 2).run Tryz.prog w= .ok (.int .i64 c) w:=by kernel_rfl

theorem Pi (vm:Value) (l:ML) (w:World) (hm:Row w vm l.length (l.map Cr)) (hok:∀m∈l,okM m=true) (hn:l.length<=2097152) :
  Calls Tryz.prog 115 #[vm] w fun e w' =>∃v',e= .returned v' ∧w'.ownsRow w.heap.size 119 1 v' (Ll l).length ((Ll l).map Cr)/\(∀m∈Ll l,okM m=true)/\(Ll l).length<=l.length/\Below w.heap.size w w' :=by
 obtain⟨i0,hi,hz0,hz1,hz2⟩:=info_parts Tryz.info119
 obtain⟨a,b,off,cap,rfl,hcap,hmax,ha,hc⟩:=hm.changes
 unfold maxLen at hmax;have OK:Hid (∀m∈l,okM m=true):=hok
 have HC:Hid _:=hc
 have b0:Below w.heap.size w (w.alloc (.cells #[.slice none 0 0, .slice none 0 0] 114)):=(Below.refl _ _).alloc (Nat.le_refl _) _
 have START:Hid (JSt w l 0 [] [] (fun g=>g=w.heap.size) (.slice none 0 0) (w.alloc (.cells #[.slice none 0 0, .slice none 0 0] 114))):=
  ⟨Nat.le_refl _,rfl,⟨.slice none 0 0, .slice none 0 0,heap_alloc_new _ _,World.ownsRow_nil _ _ _ _,World.ownsRow_nil _ _ _ _,fun g hg=>by simp[Value.ownBlock] at hg,rfl,fun g hg=>by simp[Value.ownBlock] at hg,fun g hg=>by simp[Value.ownBlock] at hg⟩,
   fun g hg=>by omega,fun g _ hg=>by simp[Value.ownBlock] at hg,⟨List.Pairwise.nil,fun p hp=>by simp at hp⟩,fun x hx=>by simp[AE] at hx,fun a ha=>by simp at ha,World.ownsRow_nil _ _ _ _,b0⟩
 clear hm hok b0 hc;go_enter Tryz.func115,Tryz.ntmps115
 go_wp2;go_loopw [4,14] (fun out i wr=>∃(k:Nat) (A:ML) (P:PL) (F:Nat->Prop),k<=l.length/\i= .int .i64 k/\Hid (JSt w l k A P F out wr))
  (fun _ i _=>l.length-(intOf i).toNat)
 case atStart=>exact⟨0,[],[],_,Nat.zero_le _,rfl,START⟩
 case round=>
  obtain⟨k,A,P,F,hkl,rfl,J⟩:=hrel
  clear START;have hAl:=J.out.len
  have hPl:=Fz J.out.mp
  obtain⟨la,lc,hout⟩:=Bu J.out.own
  subst hout;have hlc:A.length<=lc/\lc<=maxLen:=by
   obtain⟨_,⟨e,e2⟩|⟨g,cap',cur,e,_,_,h1,h2,_⟩⟩:=J.out.own
   ·simp at e;unfold maxLen;omega
   ·simp at e;rw[e.2];exact⟨h1,h2⟩
  unfold maxLen at hlc;obtain⟨hlc1,hlc2⟩:=hlc
  by_cases hlt:k<l.length
  ·have hal:=ha (by omega)
   subst hal;have d0:=(J.out.bel.cell (by exact Aa (HC.out k hlt))).trans (HC.out k hlt)
   have okm:=Qw OK.out hlt
   obtain⟨ho4,hk9,hv9⟩:=CG okm
   simp only at ho4 hk9 hv9
   have OKM:Hid _:=okm
   have APP:Hid _:= @JSt.app w l k A P
   have JOI:Hid _:= @JSt.join w l k A P F
   have hbs:=J.out.bel.size
   have HR:Hid _:=Bl (n:=A.length) (bytes:=16) (by omega) (by decide)
   clear okm;generalize mO l k=x0 at *
   generalize mK l k=x1 at *
   generalize mV l k=x2 at *
   have plain:∀W,Below wr.heap.size wr W->x0≠1->¬(x0=3/\(AE P x1).2=true)->∀v' w',w'.ownsRow w.heap.size 119 1 v' (A.length+1) (A.map Cr++[Cr (x0,x1,x2)])->Chg (fun g=>(Value.slice la A.length lc).ownBlock=some g) W w' ->Below w.heap.size W w' ->∃G,JSt w l (k+1) (A++[(x0,x1,x2)]) P G v' w':=
    fun W hW h1 h3 v' w' ho hcc hb=>APP.out J.out hlt OKM.out (J.out.srt.below hW) J.out.ge J.out.ap J.out.mp (J.out.inv.app _) (SE h1 h3) (Below.and J.out.bel hW) ho hcc hb
   have PLAIN:Hid _:=plain
   clear plain;rcases(show x0=1∨x0=2∨x0=3∨x0=4 from by omega) with rfl|rfl|rfl|rfl
   ·rw[show Cr (1,x1,x2)= .iface 149 (.agg #[.int .i64 x1, .int .i64 x2]) from rfl] at d0
    have t99:=LI x1 x2
    have ba:Below wr.heap.size wr (wr.alloc (.cells #[.int .i64 x1, .int .i64 x2] 149)):=(Below.refl _ _).alloc (Nat.le_refl _) _
    have SA:Hid _:=And.intro (J.out.srt.below ba) ba
    clear ba;go_wp2_with fail;refine(Il w.heap.size F P _ _ _ SA.out.1 J.out.mp.1 (by omega)).mono ?_
    rintro e w1 ⟨rfl,F',h1,h2,h3⟩
    have O1:w1.ownsRow w.heap.size 119 1 (.slice la A.length lc) A.length (A.map Cr):=AQ (AJ J.out.own SA.out.2) h2 (fun g hg hF=>J.out.ap g hF hg)
    have ge1:∀g,F' g->w.heap.size<=g:=fun g hg=>(h3 g hg).elim (J.out.ge g) (fun hh=>by have:=SA.out.2.size;omega)
    have ap1:∀g,F' g->(Value.slice la A.length lc).ownBlock≠some g:=fun g hg e=>(h3 g hg).elim (fun hh=>J.out.ap g hh e) (fun hh=>by have:=(J.out.own.lt g e).2;have:=SA.out.2.size;omega)
    have B1:Below w.heap.size w w1:=(Below.and J.out.bel SA.out.2).trans (h2.below (fun g _ hg=>J.out.ge g hg) (by have:=SA.out.2.size;omega))
    have mp1:CJ (B9 P x1 A.length):=IA J.out.mp hk9 (by omega)
    have FINF:Hid _:=fun v' w' ho hcc hb=>APP.out J.out hlt OKM.out h1 ge1 ap1 mp1 (J.out.inv.put J.out.mp.1 x1 x2) (UO A P x1 x2) B1 (v' :=v') (w' :=w') ho hcc hb
    have hbs1:w.heap.size<=w1.heap.size:=B1.size
    have H1:Hid (∀u∈[Value.iface 149 (.agg #[.int .i64 x1, .int .i64 x2])],u.oneCell' =true):=fun u hu=>by simp at hu;subst hu;rfl
    clear h1 h2 h3 ge1 ap1 B1 mp1 SA;go_wp2_with (at_builtin;refine BI w1 rfl _ _ 116 rfl w.heap.size 119 i0 _ 1 16 Tryz.underlying116 hi hz0 hz1 hz2 rfl (by decide) (.slice la A.length lc) _ _ rfl O1 [.iface 149 (.agg #[.int .i64 x1, .int .i64 x2])] rfl rfl H1.out HR.out.1 HR.out.2 hbs1 ?_)
    intro v8 w8 ho8 hc8 hb8;obtain⟨G,J8⟩:=FINF.out v8 w8 ho8 hc8 hb8
    have J9:Hid _:=J8
    clear ho8 hc8 hb8 O1 J8;go_wp2;go_roundw
    case rel=>exact⟨k+1,_,_,G,by omega,by go_num,J9⟩
    case measure=>simp[intOf];omega
   ·rw[show Cr (2,x1,x2)= .iface 151 (.agg #[.int .i64 x1]) from rfl] at d0
    have t99:=Ki x1
    have t101:=Sn x1
    have O1:=J.out.own
    have H1:Hid (∀u∈[Value.iface 151 (.agg #[.int .i64 x1])],u.oneCell' =true):=fun u hu=>by simp at hu;subst hu;rfl
    go_wp2_with (at_builtin;refine BI wr rfl _ _ 116 rfl w.heap.size 119 i0 _ 1 16 Tryz.underlying116 hi hz0 hz1 hz2 rfl (by decide) (.slice la A.length lc) _ _ rfl O1 [.iface 151 (.agg #[.int .i64 x1])] rfl rfl H1.out HR.out.1 HR.out.2 hbs ?_)
    intro v8 w8 ho8 hc8 hb8;obtain⟨G,J8⟩:=PLAIN.out wr (Below.refl _ _) (by omega) (by omega) v8 w8 ho8 hc8 hb8
    have J9:Hid _:=J8
    clear ho8 hc8 hb8 O1 J8;go_wp2;go_roundw
    case rel=>exact⟨k+1,_,_,G,by omega,by go_num,J9⟩
    case measure=>simp[intOf];omega
   ·rw[show Cr (3,x1,x2)= .iface 153 (.agg #[.int .i64 x1, .int .i64 x2]) from rfl] at d0
    have t99:=Kf x1 x2
    have t101:=Nb x1 x2
    have ba:Below wr.heap.size wr (wr.alloc (.cells #[.int .i64 x1, .int .i64 x2] 153)):=(Below.refl _ _).alloc (Nat.le_refl _) _
    have SA:Hid _:=And.intro (J.out.srt.below ba) ba
    have MA:Hid _:=heap_alloc_new wr (.cells #[.int .i64 x1, .int .i64 x2] 153)
    clear ba;go_wp2_with fail;refine(Oh w.heap.size F P _ _ SA.out.1 J.out.mp.1 (by omega)).mono ?_
    rintro e w1 ⟨rfl,b1⟩
    have M1:Hid (w1.heap[wr.heap.size]? =some (.cells #[.int .i64 x1, .int .i64 x2] 153 (0,0))):=by
     show _=_
     rw[b1.block _ (by simp)];exact MA.out
    have B1:Hid (Below wr.heap.size wr w1):=Below.and SA.out.2 b1
    clear b1 SA MA t99 t101 d0
    cases hfd:(AE P x1).2
    ·have O1:=AJ J.out.own B1.out
     have hbs1:w.heap.size<=w1.heap.size:=Nat.le_trans hbs B1.out.size
     have H1:Hid (∀u∈[Value.iface 153 (.agg #[.int .i64 x1, .int .i64 x2])],u.oneCell' =true):=fun u hu=>by simp at hu;subst hu;rfl
     have NF:Hid (¬((3:Int)=3/\(AE P x1).2=true)):=by rw[hfd];intro h;cases h.2
     go_wp2_with (at_builtin;refine BI w1 rfl _ _ 116 rfl w.heap.size 119 i0 _ 1 16 Tryz.underlying116 hi hz0 hz1 hz2 rfl (by decide) (.slice la A.length lc) _ _ rfl O1 [.iface 153 (.agg #[.int .i64 x1, .int .i64 x2])] rfl rfl H1.out HR.out.1 HR.out.2 hbs1 ?_)
     intro v8 w8 ho8 hc8 hb8;obtain⟨G,J8⟩:=PLAIN.out w1 B1.out (by decide) NF.out v8 w8 ho8 hc8 hb8
     have J9:Hid _:=J8
     clear ho8 hc8 hb8 O1 J8;go_wp2;go_roundw
     case rel=>exact⟨k+1,_,_,G,by omega,by go_num,J9⟩
     case measure=>simp[intOf];omega
    ·obtain⟨n,hgn,hnl,hon,hkn⟩:=J.out.inv x1 hfd
     rw[hgn]
     have O1:=AJ J.out.own B1.out
     have hex:∃g,la=some ⟨g,0,none⟩:=by
      obtain⟨_,⟨_,e⟩|⟨g,cap',cur,e,_⟩⟩:=J.out.own
      ·omega
      ·simp at e;exact⟨g,e.1⟩
     obtain⟨g,rfl⟩:=hex
     have cn:w1.cell? ⟨g,n,none⟩=some (.iface 149 (.agg #[.int .i64 x1, .int .i64 (mV A n)])):=by
      rw[O1.cellAt n (by omega),List.getElem?_map,List.getElem?_eq_getElem hnl,DV A n hnl,hon,hkn];rfl
     have hVn:=(CG (J.out.ok _ (S9 hnl))).2.2
     simp only at hVn
     have e1:∀u:Bel w1,u.now.cell? ⟨g,n,none⟩=some (.iface 149 (.agg #[.int .i64 x1, .int .i64 (mV A n)])):=fun u=>(u.bel.cell (by exact Aa cn)).trans cn
     have M10:w1.cell? ⟨wr.heap.size,0,none⟩=some (.int .i64 x1):=by rw[Af M1.out];rfl
     have M11:w1.cell? ⟨wr.heap.size,1,none⟩=some (.int .i64 x2):=by rw[Af M1.out];rfl
     have e2:∀u:Bel w1,u.now.cell? ⟨wr.heap.size,1,none⟩=some (.int .i64 x2):=fun u=>(u.bel.cell (by exact Aa M11)).trans M11
     have e3:∀u:Bel w1,u.now.cell? ⟨wr.heap.size,0,none⟩=some (.int .i64 x1):=fun u=>(u.bel.cell (by exact Aa M10)).trans M10
     have hmm:=K5 x1 (mV A n)
     have hfl:=VJ 1 x1 (mV A n)
     have hem:=Ob (.agg #[.int .i64 x1, .int .i64 (mV A n)])
     have hnl2:(n:Int)<A.length:=by omega
     have OO:Hid _:=O1
     clear O1 cn M10 M11;go_wp2_with fail;have _some:=Bel.some w1
     refine DG (w0:=w1) (by kernel_rfl) (by kernel_rfl) (Below.refl _ _) ?_
     repeat (go_big_quiet_step (first|(go_at_call 157;exact Calls.bel (WA x1 (mV A n) _))|(go_at_call 114;exact Calls.bel ((H8 _ _ _ hVn.1 hVn.2 hv9.1 hv9.2).mono (fun _ _ h=>⟨h.1,by rw[h.2];exact Below.refl _ _⟩)))))
     refine wpQuiet_nil ?_
     rintro _ ⟨u,rfl⟩
     have U0:=e1 u
     have U1:=e3 u
     have OU:=AJ OO.out u.bel
     have FU:=OU.frozenAt n
     have BU:Hid (Below wr.heap.size wr u.now):=Below.and B1.out u.bel
     have st:=(OU.stored n (Cr (1,x1,Bg (mV A n+x2)))).1
     have JN:=JOI.out J.out hlt hnl rfl hkn hk9 (Us x2 hfd hgn) BU.out g rfl (J.out.own.lt g rfl).1 st
     have J9:Hid _:=JN
     rw[show Cr (1,x1,Bg (mV A n+x2))= .iface 149 (.agg #[.int .i64 x1, .int .i64 (Bg (mV A n+x2))]) from rfl] at J9
     clear JN st OU e1 e2 e3;go_wp2;go_roundw
     case rel=>exact⟨k+1,_,_,F,by omega,by go_num,J9⟩
     case measure=>simp[intOf];omega
   ·rw[show Cr (4,x1,x2)= .iface 157 (.agg #[.int .i64 x1]) from rfl] at d0
    have t99:=Kj x1
    have t101:=Mr x1
    have O1:=J.out.own
    have H1:Hid (∀u∈[Value.iface 157 (.agg #[.int .i64 x1])],u.oneCell' =true):=fun u hu=>by simp at hu;subst hu;rfl
    go_wp2_with (at_builtin;refine BI wr rfl _ _ 116 rfl w.heap.size 119 i0 _ 1 16 Tryz.underlying116 hi hz0 hz1 hz2 rfl (by decide) (.slice la A.length lc) _ _ rfl O1 [.iface 157 (.agg #[.int .i64 x1])] rfl rfl H1.out HR.out.1 HR.out.2 hbs ?_)
    intro v8 w8 ho8 hc8 hb8;obtain⟨G,J8⟩:=PLAIN.out wr (Below.refl _ _) (by omega) (by omega) v8 w8 ho8 hc8 hb8
    have J9:Hid _:=J8
    clear ho8 hc8 hb8 O1 J8;go_wp2;go_roundw
    case rel=>exact⟨k+1,_,_,G,by omega,by go_num,J9⟩
    case measure=>simp[intOf];omega
  ·have hkk:k=l.length:=by omega
   subst hkk;have E:A=Ll l:=by have:=J.out.fold;rw[List.drop_length] at this;exact this
   subst E;go_wp2;go_ret;exact⟨_,rfl,J.out.own,J.out.ok,J.out.len,J.out.bel⟩
end
end Go.Proofs.YtnakaabnjelffaaGreat
