/-
  The program's leadsIn, withRoom at leads and at entries, committedBehind.
-/
import Derived.Test.YtkcaelfkcepdkaaGreatOfNote41
import Derived.Test.YtkcaelfkcepdkaaGreatOfNote40
import Derived.Test.YtkcaelfkcepdkaaGreatOfNote32
import Derived.Test.YtkcaelfkcepdkaaGreatOfNote9
import Derived.Test.YtkcaelfkcepdkaaGreatOfNote8
namespace Go.Proofs.YtkcaelfkcepdkaaGreat
set_option maxRecDepth 100000
set_option maxHeartbeats 8000000
section
open Go.RowKit

theorem Jd (a:Option Addr) (k cap:Nat) (h m:Int) (hk:k<=cap) (h0:0<=h) (hh:h<=9223372036854775807) (hm:m<=9223372036854775807) (w:World) :
  Calls Tryz.prog 101 #[.slice a k cap, .int .i64 h, .int .i64 m] w fun e w' =>e= .returned (CQ a k cap h m)/\w' =w:=by

 by_cases hl:m<=h
 ·have e1:CQ a k cap h m= .slice none 0 0:=by unfold CQ Fs;rw[if_pos hl,if_pos hl,if_pos hl]
  rw[e1]
  go_enter Tryz.func101,Tryz.ntmps101
  go_wp2;go_ret;exact⟨rfl,rfl⟩
 ·have e1:CQ a k cap h m= .slice a (min (k:Int) (m-h)).toNat cap:=by unfold CQ Fs;rw[if_neg hl,if_neg hl,if_neg hl]
  have w1:wrap64 (m-h)=m-h:=Go.IntWalk.wrap64_in _ ⟨by omega,by omega⟩
  have k1:0<=min (k:Int) (m-h):=by omega
  have k2:min (k:Int) (m-h)<=(cap:Int):=by omega
  obtain⟨q,hq1⟩:=Int.eq_ofNat_of_zero_le k1
  rw[e1,hq1]
  have hq2:q<=cap:=by omega
  have Q:=hq hq1
  have W1:=hq w1
  clear e1 k1 k2 hq1 w1;go_enter Tryz.func101,Tryz.ntmps101
  have q1:=Q.out
  have w1:=W1.out
  go_wp2;go_ret;exact⟨rfl,rfl⟩
theorem Jf (a:Option Addr) (k cap:Nat) (h m:Int) (hk:k<=cap) (h0:0<=h) (hh:h<=9223372036854775807) (hm:m<=9223372036854775807) (w:World) :
  Calls Tryz.prog 121 #[.slice a k cap, .int .i64 h, .int .i64 m] w fun e w' =>e= .returned (CQ a k cap h m)/\w' =w:=by

 by_cases hl:m<=h
 ·have e1:CQ a k cap h m= .slice none 0 0:=by unfold CQ Fs;rw[if_pos hl,if_pos hl,if_pos hl]
  rw[e1]
  go_enter Tryz.func121,Tryz.ntmps121
  go_wp2;go_ret;exact⟨rfl,rfl⟩
 ·have e1:CQ a k cap h m= .slice a (min (k:Int) (m-h)).toNat cap:=by unfold CQ Fs;rw[if_neg hl,if_neg hl,if_neg hl]
  have w1:wrap64 (m-h)=m-h:=Go.IntWalk.wrap64_in _ ⟨by omega,by omega⟩
  have k1:0<=min (k:Int) (m-h):=by omega
  have k2:min (k:Int) (m-h)<=(cap:Int):=by omega
  obtain⟨q,hq1⟩:=Int.eq_ofNat_of_zero_le k1
  rw[e1,hq1]
  have hq2:q<=cap:=by omega
  have Q:=hq hq1
  have W1:=hq w1
  clear e1 k1 k2 hq1 w1;go_enter Tryz.func121,Tryz.ntmps121
  have q1:=Q.out
  have w1:=W1.out
  go_wp2;go_ret;exact⟨rfl,rfl⟩

theorem Ez {w:World} {B:Nat} {N:AL} {D:Nd} (h:Ai 73 w B (Ax (N,D)).toArray):w.rangeAt B 0 (Ax (N,D))/\w.cell? ⟨B,0,none⟩=some (.int .i64 N.id)/\w.cell? ⟨B,1,none⟩=some (.int .i64 N.te)/\w.rangeAt B 3 [.int .i64 N.lb, .int .i64 N.lt,N.lv]/\w.cell? ⟨B,12,none⟩=some (.int .i64 N.ro)/\w.cell? ⟨B,16,none⟩=some (.int .i64 N.cm):=by
 have c:=h.cells
 refine⟨by have:=Ao h;rw[List.toList_toArray] at this;exact this,(c 0).trans rfl,(c 1).trans rfl,fun j v hv=> ?_,(c 12).trans rfl,(c 16).trans rfl⟩
 have hj:j<3:=(List.getElem?_eq_some_iff.1 hv).1
 rw[c (3+j)]
 match j,hj with
 |0,_=>exact hv
 |1,_=>exact hv
 |2,_=>exact hv
theorem Lx (N:AL) (te0:Int) (w:World):Calls Tryz.prog 100 #[N.val, .int .i64 te0] w fun e w' =>e= .returned (.bool (N.ro==2&&N.te==te0))/\Below w.heap.size w w' :=by
 have LD:Hid (∀u,Calls Tryz.prog 99 #[N.val] u fun e w' =>e= .returned (.bool (N.ro==2))/\Below u.heap.size u w'):=fun u=>JB N u
 have VN:N.val= .agg (Ax (N,⟨[],zT,[],[],[],[],zT,[]⟩)).toArray:=rfl
 have NC:=fun (u:World) (B:Nat)=>Ez (w:=u) (B:=B) (N:=N) (D:=⟨[],zT,[],[],[],[],zT,[]⟩)
 have hcl:(Ax (N,⟨[],zT,[],[],[],[],zT,[]⟩)).length=23:=rfl
 rw[VN] at LD ⊢
 generalize Ax (N,⟨[],zT,[],[],[],[],zT,[]⟩)=cs at *
 have N1:Hid (Ai 73 (w.alloc (.cells cs.toArray 73)) w.heap.size cs.toArray):=Ai.start _ w _
 have B1:Hid (Below w.heap.size w (w.alloc (.cells cs.toArray 73))):=Ae _ _
 have HI:Hid ((Tryz.prog.info? 73).map (·.size)=some cs.length):=by show _=_;rw[hcl];exact(show(Tryz.prog.info? 73).map (·.size)=some 23 by kernel_rfl)
 clear VN hcl;generalize N.ro=ro at *
 generalize N.te=te at *
 go_enter Tryz.func100,Tryz.ntmps100
 go_upto_region 1 with fail
 generalize (w.alloc (.cells cs.toArray 73))=W1 at *
 have RG:=(NC W1 w.heap.size N1.out).1
 go_wp2_with (refine wpList_load_mid rfl 73 _ rfl w.heap.size 0 rfl cs _ RG Tryz.underlying73 rfl HI.out ?_)
 refine(LD.out W1).mono ?_
 rintro e w1 ⟨rfl,b1⟩
 replace B1:=hq (Below.and B1.out b1)
 have c1:=(NC w1 w.heap.size (N1.out.step b1)).2.2.1
 clear N1 b1 LD RG NC HI
 cases hr:(ro==2)
 ·go_wp2;go_ret;exact⟨Ay (by rw[hr];rfl),B1.out⟩
 ·go_wp2;go_ret;exact⟨Ay (by rw[hr];rfl),B1.out⟩

theorem Pe (args:Array Value) (w:World):(callFunc 122 args).run Tryz.prog w= .ok (.enter 122 args) w:=by go_simp
theorem RD (args:Array Value) (w:World):(callFunc 121 args).run Tryz.prog w= .ok (.enter 121 args) w:=by go_simp
theorem Row.room {w:World} {a:Option Addr} {cap:Nat} {l:EL} (h:Row w (.slice a l.length cap) l.length (Af l)) (hc:cap<=maxLen) (c:Nat) (cm:Int) :
  Row w (CQ a l.length cap c (min cm 2000)) (l.take (ntK c cm)).length (Af (l.take (ntK c cm)))/\Fs l.length c (min cm 2000)=(l.take (ntK c cm)).length:=by
 by_cases hl:min cm 2000<=(c:Int)
 ·have e1:ntK c cm=0:=by unfold ntK;rw[if_pos hl]
  have e2:Fs l.length c (min cm 2000)=0:=by unfold Fs;rw[if_pos hl]
  have e3:CQ a l.length cap c (min cm 2000)= .slice none 0 0:=by unfold CQ;rw[e2,if_pos hl,if_pos hl]
  rw[e1,e2,e3]
  exact⟨(Ac.nil w 0 0 0).rowF.row,rfl⟩
 ·have e1:ntK c cm=(min cm 2000-(c:Int)).toNat:=by unfold ntK;rw[if_neg hl]
  have e2:Fs l.length c (min cm 2000)=min l.length (ntK c cm):=by unfold Fs;rw[if_neg hl,e1];omega
  have e4:(l.take (ntK c cm)).length=min l.length (ntK c cm):=by rw[List.length_take];omega
  have e3:CQ a l.length cap c (min cm 2000)= .slice a (min l.length (ntK c cm)) cap:=by unfold CQ;rw[e2,if_neg hl,if_neg hl]
  have hcl:l.length<=cap:=by
   obtain⟨_,_,_,_,hv,h2,_⟩:=h
   simp at hv
   omega
  rw[e2,e3,e4]
  refine⟨?_,rfl⟩
  have:=h.part (i:=0) (j:=min l.length (ntK c cm)) (m:=cap) (Nat.zero_le _) (Nat.min_le_left _ _) (Nat.le_trans (Nat.min_le_left _ _) hcl) (Nat.le_refl _)
  simp only[Nat.sub_zero,List.drop_zero] at this
  rw[show l.take (ntK c cm)=l.take (min l.length (ntK c cm)) by rcases Nat.le_total l.length (ntK c cm) with e|e;rw[Nat.min_eq_left e,List.take_length,List.take_of_length_le e];rw[Nat.min_eq_right e]]
  by_cases h0:cap=0
  ·subst h0;have hz:l=[]:=List.length_eq_zero_iff.1 (by omega)
   subst hz;simp at this ⊢
   obtain⟨a',b,off,cap',hv,q⟩:=h
   exact⟨a',b,off,cap',hv,q⟩
  ·rw[if_neg h0] at this
   have e0:a.map (·.add (0*6))=a:=by cases a with
    |none=>rfl
    |some x=>simp[Addr.add]
   rw[e0] at this
   exact this
theorem FT (N:AL) (l:EL) (c:Nat) (w:World) (h:Row w N.lv l.length (Af l)) (hb:I64 N.lb) (hl:l.length<=1048576) (hc:c<=2097152) :
  Calls Tryz.prog 102 #[N.val, .int .i64 c] w fun e w' =>∃(a:Option Addr) (cap:Nat),e= .returned (.slice a ((Bj N.lb l ((c:Int)+1)).take (ntK c N.cm)).length cap)/\Row w' (.slice a ((Bj N.lb l ((c:Int)+1)).take (ntK c N.cm)).length cap) ((Bj N.lb l ((c:Int)+1)).take (ntK c N.cm)).length (Af ((Bj N.lb l ((c:Int)+1)).take (ntK c N.cm)))/\(0<((Bj N.lb l ((c:Int)+1)).take (ntK c N.cm)).length->∃g,a=some ⟨g,0,none⟩/\w.heap.size<=g/\g<w'.heap.size)/\Below w.heap.size w w' :=by
 have CE:=hq (fun (u:World) (hu:Below w.heap.size w u)=>FW N.lb N.lt N.lv l ((c:Int)+1) u (h.below hu) hb (by unfold I64;omega) (by omega))
 have WW:Hid (IntKind.i64.wrap ((c:Int)+1)=(c:Int)+1):=by show _=_;rw[IntKind.wrap_i64];omega
 have VN:N.val= .agg (Ax (N,⟨[],zT,[],[],[],[],zT,[]⟩)).toArray:=rfl
 have NC:=fun (u:World) (B:Nat)=>Ez (w:=u) (B:=B) (N:=N) (D:=⟨[],zT,[],[],[],[],zT,[]⟩)
 rw[VN]
 generalize Ax (N,⟨[],zT,[],[],[],[],zT,[]⟩)=cs at *
 have hel:=Jm N.lb l ((c:Int)+1)
 generalize Bj N.lb l ((c:Int)+1)=es at *
 generalize N.lb=lb at *
 generalize N.lt=lt at *
 generalize N.lv=lv at *
 generalize N.cm=cm at *
 have HEL:Hid (es.length<=1048576):=by show _<=_;omega
 have CW:=hq (fun (a:Option Addr) (cap:Nat) (u:World) (h1:es.length<=cap)=>Jf a es.length cap c (min cm 2000) h1 (by omega) (by omega) (by omega) u)
 have N1:Hid (Ai 73 (w.alloc (.cells cs.toArray 73)) w.heap.size cs.toArray):=Ai.start _ w _
 have B1:Hid (Below w.heap.size w (w.alloc (.cells cs.toArray 73))):=Ae _ _
 have HL3:Hid ((Tryz.prog.info? 64).map (·.size)=some ([.int .i64 lb, .int .i64 lt,lv]:List Value).length):=(show(Tryz.prog.info? 64).map (·.size)=some 3 by kernel_rfl)
 clear h hb hl hc hel VN;go_enter Tryz.func102,Tryz.ntmps102
 go_upto_region 1 with fail
 generalize (w.alloc (.cells cs.toArray 73))=W1 at *
 have KE:Hid (∀u,Below W1.heap.size W1 u->(fun u:World=>u.rangeAt w.heap.size 3 [.int .i64 lb, .int .i64 lt,lv]/\u.cell? ⟨w.heap.size,16,none⟩=some (.int .i64 cm)) u):=fun u hu=>by have:=NC u w.heap.size (N1.out.step hu);exact⟨this.2.2.2.1,this.2.2.2.2.2⟩
 have RL:Hid (Below W1.heap.size W1 W1.drew):=(Below.refl _ _).drew
 refine wp_region_held_drew (S:=(fun u:World=>u.rangeAt w.heap.size 3 [.int .i64 lb, .int .i64 lt,lv]/\u.cell? ⟨w.heap.size,16,none⟩=some (.int .i64 cm))) (by kernel_rfl) (KE.out _ RL.out) (fun hH=> ?_)
 refine tk 0 (oi:=⟨_,_,_,_,_,_⟩) (v:= ?_) rfl (by kernel_rfl) (fun _ _ _ h=>h) (Or.inl ⟨by rfl, ?_⟩) (KE.out _ RL.out) ?_
 rotate_left
 ·(intro u hu;obtain⟨s0,s1⟩:=hu;go_simp)
  try with_reducible rfl
 try simp only[Act.put,sA,sB,sC]
 refine tk 1 (oi:=⟨_,_,_,_,_,_⟩) (v:= .agg ([.int .i64 lb, .int .i64 lt,lv]:List Value).toArray) rfl (by kernel_rfl) (fun _ _ _ h=>h) (yieldsIf_load_mid rfl 64 _ rfl w.heap.size 3 rfl [.int .i64 lb, .int .i64 lt,lv] _ (fun u hu=>hu.1) Tryz.underlying64 rfl HL3.out) (KE.out _ RL.out) ?_
 try simp only[Act.put,sA,sB,sC]
 refine tk 2 (oi:=⟨_,_,_,_,_,_⟩) (v:= ?_) rfl (by kernel_rfl) (fun _ _ _ h=>h) (Or.inl ⟨by rfl, ?_⟩) (KE.out _ RL.out) ?_
 rotate_left
 ·(intro u hu;obtain⟨s0,s1⟩:=hu;go_simp)
  try with_reducible rfl
 try simp only[Act.put,sA,sB,sC]
 refine tk 3 (oi:=⟨_,_,_,_,_,_⟩) (v:= ?_) rfl (by kernel_rfl) (fun _ _ _ h=>h) (Or.inl ⟨by rfl, ?_⟩) (KE.out _ RL.out) ?_
 rotate_left
 ·(intro u hu;obtain⟨s0,s1⟩:=hu;go_simp)
  try with_reducible rfl
 try simp only[Act.put,sA,sB,sC]
 rw[WW.out]
 refine tk 5 (oi:=⟨_,_,_,_,_,_⟩) (v:= ?_) rfl (by kernel_rfl) (fun _ _ _ h=>h) (Or.inl ⟨by rfl, ?_⟩) (KE.out _ RL.out) ?_
 rotate_left
 ·(intro u hu;obtain⟨s0,s1⟩:=hu;go_simp)
  try with_reducible rfl
 try simp only[Act.put,sA,sB,sC]
 refine tk 6 (oi:=⟨_,_,_,_,_,_⟩) (v:= ?_) rfl (by kernel_rfl) (fun _ _ _ h=>h) (Or.inl ⟨by rfl, ?_⟩) (KE.out _ RL.out) ?_
 rotate_left
 ·(intro u hu;obtain⟨s0,s1⟩:=hu;go_simp)
  try with_reducible rfl
 try simp only[Act.put,sA,sB,sC]
 refine tk 7 (oi:=⟨_,_,_,_,_,_⟩) (v:= ?_) rfl (by kernel_rfl) (fun _ _ _ h=>h) (Or.inl ⟨by rfl, ?_⟩) (KE.out _ RL.out) ?_
 rotate_left
 ·(intro u hu;obtain⟨s0,s1⟩:=hu;go_simp)
  try with_reducible rfl
 try simp only[Act.put,sA,sB,sC]
 refine tk 8 (oi:=⟨_,_,_,_,_,_⟩) (v:= ?_) rfl (by kernel_rfl) (fun _ _ _ h=>h) (Or.inl ⟨by rfl, ?_⟩) (KE.out _ RL.out) ?_
 rotate_left
 ·(intro u hu;obtain⟨s0,s1⟩:=hu;go_simp)
  try with_reducible rfl
 try simp only[Act.put,sA,sB,sC]
 refine wpAnyH_ready (rs:=[4]) (by kernel_rfl) (by simp) ?_
 refine AllReadyH.cons (o:=⟨_,_,_,_,_,_⟩) rfl (fun K hK=> ?_) AllReadyH.nil
 refine(if_pos (show Region.wanted _ _=true by kernel_rfl)).mpr ?_
 refine Bm 122 [.tmp 6, .tmp 8] #[64,3] rfl Pe _ rfl (CE.out _ (Below.and B1.out RL.out)) ?_
 rintro e w3 ⟨v3,rfl,o3,b3⟩
 obtain⟨a3,q3,hv3⟩:=Ac.slice (.inl o3)
 subst hv3;have R3:=hq (Row.of_owns o3)
 have FR3:Hid (0<es.length->∃g,a3=some ⟨g,0,none⟩/\W1.drew.heap.size<=g/\g<w3.heap.size):=fun hn=>by
  obtain⟨g,cap',e1,_,_⟩:=o3.form hn
  simp only[Value.slice.injEq] at e1
  exact⟨g,e1.1,(o3.lt g (by rw[e1.1];rfl)).1,(o3.lt g (by rw[e1.1];rfl)).2⟩
 replace RL:=hq (Below.and RL.out b3)
 clear o3 b3;refine⟨_,rfl, ?_⟩
 refine hK.out _ _ (KE.out _ RL.out) (fun hH2=> ?_)
 clear hK K hH hH2;try simp only[Act.put,sA,sB,sC]
 refine wpAnyH_ready (rs:=[9]) (by kernel_rfl) (by simp) ?_
 refine AllReadyH.cons (o:=⟨_,_,_,_,_,_⟩) rfl (fun K hK=> ?_) AllReadyH.nil
 refine(if_pos (show Region.wanted _ _=true by kernel_rfl)).mpr ?_
 refine Bm 121 [.tmp 9, .tmp 10, .tmp 13] #[62,3,3] rfl RD _ rfl (CW.out a3 q3 w3 (by obtain⟨_,_,_,_,hv,h2,_⟩:=R3.out;simp at hv;omega)) ?_
 rintro e w4 ⟨rfl,rfl⟩
 refine⟨_,rfl, ?_⟩
 refine hK.out _ _ (KE.out _ RL.out) (fun hH2=> ?_)
 clear hK K hH2;try simp only[Act.put,sA,sB,sC]
 have HQ:q3<=maxLen:=by obtain⟨_,_,_,_,hv,_,h3,_⟩:=R3.out;simp at hv;omega
 obtain⟨p1,p2⟩:=Row.room R3.out HQ c cm
 have FIN:Hid (∃(a:Option Addr) (cap:Nat),CQ a3 es.length q3 c (min cm 2000)= .slice a (es.take (ntK c cm)).length cap/\Row w4 (.slice a (es.take (ntK c cm)).length cap) (es.take (ntK c cm)).length (Af (es.take (ntK c cm)))/\(0<(es.take (ntK c cm)).length->∃g,a=some ⟨g,0,none⟩/\w.heap.size<=g/\g<w4.heap.size)/\Below w.heap.size w w4):=by
  refine⟨_,_,by unfold CQ;rw[p2], ?_,fun h0=> ?_,Below.and B1.out RL.out⟩
  rotate_left
  ·rw[List.length_take] at h0
   obtain⟨g,e1,e2,e3⟩:=FR3.out (by omega)
   have hn:¬min cm 2000<=(c:Int):=fun h=>by unfold ntK at h0;rw[if_pos h] at h0;omega
   rw[if_neg hn]
   exact⟨g,e1,Nat.le_trans B1.out.size e2,e3⟩
  have:=p1
  unfold CQ at this;rw[p2] at this
  exact this
 have HS4:=hq (KE.out _ RL.out)
 clear p1 p2 HQ R3 B1 N1 KE FR3;generalize CQ a3 es.length q3 c (min cm 2000)=vv at *
 obtain⟨a,cap,e,r⟩:=FIN.out
 subst e;have FR:=hq r
 clear r FIN;refine tk 10 (oi:=⟨_,_,_,_,_,_⟩) (v:= ?_) rfl (by kernel_rfl) (fun _ _ _ h=>h) (Or.inl ⟨by rfl, ?_⟩) HS4.out ?_
 rotate_left
 ·(intro u hu;obtain⟨s0,s1⟩:=hu;go_simp)
  try with_reducible rfl
 try simp only[Act.put,sA,sB,sC]
 refine wpAnyH_done (by kernel_rfl) ?_ _
 go_wp2_with fail;go_ret;have fr:=FR.out
 rw[List.length_take] at fr
 first|exact⟨a,cap,rfl,fr⟩|exact⟨a,cap,by rw[List.length_take],fr⟩
end
end Go.Proofs.YtkcaelfkcepdkaaGreat
