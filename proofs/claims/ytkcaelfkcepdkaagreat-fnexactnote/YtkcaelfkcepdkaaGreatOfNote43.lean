/-
  The program's note: a lead more, commands more, the node in its place.
-/
import Derived.Test.YtkcaelfkcepdkaaGreatOfNote41
import Derived.Test.YtkcaelfkcepdkaaGreatOfNote42
import Derived.Test.YtkcaelfkcepdkaaGreatOfNote34
import Derived.Test.YtkcaelfkcepdkaaGreatOfNote40
import Derived.Test.YtkcaelfkcepdkaaGreatOfNote35
namespace Go.Proofs.YtkcaelfkcepdkaaGreat
set_option maxRecDepth 100000
set_option maxHeartbeats 8000000
section
open Go.RowKit

theorem Pq (args:Array Value) (w:World):(callFunc 99 args).run Tryz.prog w= .ok (.enter 99 args) w:=by go_simp
theorem KY (args:Array Value) (w:World):(callFunc 100 args).run Tryz.prog w= .ok (.enter 100 args) w:=by go_simp
theorem Rq (args:Array Value) (w:World):(callFunc 101 args).run Tryz.prog w= .ok (.enter 101 args) w:=by go_simp
theorem Qu (args:Array Value) (w:World):(callFunc 102 args).run Tryz.prog w= .ok (.enter 102 args) w:=by go_simp
def ntF (te id:Int) (q:Nat):List Er:=if q<2000 then [(te,id)] else []
theorem OY {W:World} {b:Nat} {te id:Int} (q:Nat) (h:Row W (.slice (some ⟨b,0,none⟩) 1 1) 1 [.int .i64 te, .int .i64 id]):Row W (CQ (some ⟨b,0,none⟩) 1 1 q 2000) (ntF te id q).length ((ntF te id q).map AN).flatten:=by
 unfold CQ Fs ntF;by_cases hq:q<2000
 ·have e1:¬(2000:Int)<=(q:Int):=by omega
  have e2:(min ((1:Nat):Int) (2000-(q:Int))).toNat=1:=by omega
  rw[if_pos hq,if_neg e1,if_neg e1,if_neg e1,e2]
  exact h
 ·have e1:(2000:Int)<=(q:Int):=by omega
  rw[if_neg hq,if_pos e1,if_pos e1,if_pos e1]
  exact(Ac.nil W 0 0 0).rowF.row
theorem SW (N P:AL) (q:Nat):ntL N P q=if (N.ro==2&& !(P.ro==2&&P.te==N.te))=true then ntF N.te N.id q else []:=by
 unfold ntL ntB ntF
 cases (N.ro==2&& !(P.ro==2&&P.te==N.te))
 ·simp
 ·by_cases hq:q<2000<;>simp[hq]
def I7 (e:En):List Value:=[.int .i64 e.1, .int .i64 e.2.1, .int .i64 e.2.2.1, .int .i64 e.2.2.2.1, .int .i64 e.2.2.2.2.1, .int .i64 e.2.2.2.2.2]
theorem JR (l:EL):Af l=(l.map I7).flatten:=rfl
theorem Qz (fs:List Er):(fs.map AN).flatten.length=fs.length*2/\∀y∈(fs.map AN).flatten,y.oneCell' =true:=
 ⟨by rw[(B8 (K:=2) (cs:=AN) (fun _=>rfl) fs).len,List.length_map],by intro y hy;obtain⟨l,hl,hy⟩:=List.mem_flatten.1 hy;obtain⟨e,_,rfl⟩:=List.mem_map.1 hl;simp[AN] at hy;rcases hy with rfl|rfl<;>rfl⟩

theorem QU (n:Nat) (sz:Int) (nv rv cv av lv:Value) (D:Wd) (F:Nat->Prop) (X:Nat) (w0 w:World) (GZ:NtG (De n) (Dh n) w0 w X (fun _=>False) sz rv av w F nv cv lv D) (i:Nat) (hi:i<D.ns.length) (N:AL) (DN:Nd)
  (hcn:∀u,Below w0.heap.size w0 u->Calls Tryz.prog 83 #[N.val] u fun e w' =>∃M:AL,e= .returned M.val/\N.like M/\FZ n w' u.heap.size M DN/\Below u.heap.size u w') (hrow:Row w0 N.lv DN.l.length (Af DN.l)) (hb:I64 N.lb) (hl:DN.l.length<=1048576)
  (hn1:D.ns.length<=1048576) (hn2:D.cs.length<=1048576) (hn3:D.ls.length<=1048576) :
  Calls Tryz.prog 66 #[.pointer (some ⟨X,0,none⟩), .int .i64 i,N.val] w fun e w' =>e= .returned (.tuple #[])/\∃(F' :Nat->Prop) (nv' cv' lv' :Value) (E:Wd),(D.noted i N DN).like E/\WrS (De n) (Dh n) w' F' ⟨sz,nv',rv,cv',av,lv'⟩ E/\(∀g,F' g->w0.heap.size<=g/\g<w'.heap.size/\g≠X)/\Ai 37 w' X #[.int .i64 sz,nv',rv,cv',av,lv']/\Below w0.heap.size w0 w' :=by
 obtain⟨g0,p0,hv0,_,_⟩:=GZ.1.nod.1.pos (by omega)
 simp only at hv0
 subst hv0;obtain⟨a1,b1,o1,q1,hv1,_,_,ha1,hrg⟩:=(GZ.1.at (Ej n) (El n)).1.parts (K:=23) (fun _=>rfl)
 simp only[Value.slice.injEq,true_and] at hv1
 obtain⟨rfl,rfl⟩:=hv1
 have ha2:=ha1 (by omega)
 simp only[Option.some.injEq,Addr.mk.injEq,and_true] at ha2
 obtain⟨rfl,rfl⟩:=ha2
 obtain⟨ps,hps⟩:∃ps:List Value,ps=Ax D.ns[i]:=⟨_,rfl⟩
 have hpl:ps.length=23:=by rw[hps];rfl
 have RP:Hid (∀u,Below w.heap.size w u->u.rangeAt g0 (i*23) ps):=fun u hu=>by have:=hrg u hu i hi;rw[Nat.zero_add, ← hps] at this;exact this
 obtain⟨P,hP⟩:∃P:AL,P=D.ns[i].1:=⟨_,rfl⟩
 have hPd:(D.ns.getD i Ap).1=P:=by rw[hP];simp[List.getD,hi]
 have LI:Hid (∀u,Calls Tryz.prog 100 #[.agg ps.toArray, .int .i64 N.te] u fun e w' =>e= .returned (.bool (P.ro==2&&P.te==N.te))/\Below u.heap.size u w'):=fun u=>by rw[hps,hP];exact Lx D.ns[i].1 N.te u
 clear ha1 hrg hps;obtain⟨cs,hcs⟩:∃cs:List Value,cs=Ax (N,DN):=⟨_,rfl⟩
 have hcl:cs.length=23:=by rw[hcs];rfl
 have VN:N.val= .agg cs.toArray:=by rw[hcs];rfl
 have NC:Hid (∀u B,Ai 73 u B cs.toArray->u.rangeAt B 0 cs/\u.cell? ⟨B,0,none⟩=some (.int .i64 N.id)/\u.cell? ⟨B,1,none⟩=some (.int .i64 N.te)/\u.rangeAt B 3 [.int .i64 N.lb, .int .i64 N.lt,N.lv]/\u.cell? ⟨B,12,none⟩=some (.int .i64 N.ro)/\u.cell? ⟨B,16,none⟩=some (.int .i64 N.cm)):=fun u B h=>by rw[hcs] at h ⊢;exact Ez h
 have LD:Hid (∀u,Calls Tryz.prog 99 #[.agg cs.toArray] u fun e w' =>e= .returned (.bool (N.ro==2))/\Below u.heap.size u w'):=fun u=>by rw[←VN];exact JB N u
 have CN:Hid (∀u,Below w0.heap.size w0 u->Calls Tryz.prog 83 #[.agg cs.toArray] u fun e w' =>∃M:AL,e= .returned M.val/\N.like M/\FZ n w' u.heap.size M DN/\Below u.heap.size u w'):=fun u hu=>by rw[←VN];exact hcn u hu
 have CB:Hid (∀u,Below w0.heap.size w0 u->Calls Tryz.prog 102 #[.agg cs.toArray, .int .i64 D.cs.length] u fun e w' =>∃(a:Option Addr) (cap:Nat),e= .returned (.slice a ((Bj N.lb DN.l ((D.cs.length:Int)+1)).take (ntK D.cs.length N.cm)).length cap)/\Row w' (.slice a ((Bj N.lb DN.l ((D.cs.length:Int)+1)).take (ntK D.cs.length N.cm)).length cap) ((Bj N.lb DN.l ((D.cs.length:Int)+1)).take (ntK D.cs.length N.cm)).length (Af ((Bj N.lb DN.l ((D.cs.length:Int)+1)).take (ntK D.cs.length N.cm)))/\(0<((Bj N.lb DN.l ((D.cs.length:Int)+1)).take (ntK D.cs.length N.cm)).length->∃g,a=some ⟨g,0,none⟩/\u.heap.size<=g/\g<w'.heap.size)/\Below u.heap.size u w'):=fun u hu=>by rw[←VN];exact FT N DN.l D.cs.length u (hrow.below hu) hb hl (by omega)
 have LIKE:Hid (∀M:AL,N.like M->(D.noted i N DN).like ⟨D.ns.set i (M,DN),D.rs,D.cs++((Bj N.lb DN.l ((D.cs.length:Int)+1)).take (ntK D.cs.length N.cm)).map Ct,D.ds,D.ls++ntL N P D.ls.length⟩):=fun M hM=>by
  refine⟨(Bs.refl Dv.refl D.ns).set (x:=(N,DN)) (y:=(M,DN)) ⟨hM,rfl⟩ i,Bs.refl Dx.refl _,rfl,rfl, ?_⟩
  show D.ls++_=_
  rw[hPd]
 have NL:=SW N P D.ls.length
 have HTS:((Bj N.lb DN.l ((D.cs.length:Int)+1)).take (ntK D.cs.length N.cm)).length<=2000:=by rw[List.length_take];exact Nat.le_trans (Nat.min_le_left _ _) (MP _ _)
 generalize (Bj N.lb DN.l ((D.cs.length:Int)+1)).take (ntK D.cs.length N.cm)=ts at *
 generalize ntL N P D.ls.length=nl at *
 rw[VN]
 clear VN hcn hrow hb hl hP hPd;generalize N.ro=ro at *
 generalize N.te=te at *
 generalize N.id=id at *
 generalize (P.ro==2&&P.te==te)=pl at *
 have HT:=hq HTS
 have HIN:Hid ((Tryz.prog.info? 73).map (·.size)=some cs.length):=by show _=_;rw[hcl];exact(show(Tryz.prog.info? 73).map (·.size)=some 23 by kernel_rfl)
 have HIP:Hid ((Tryz.prog.info? 73).map (·.size)=some ps.length):=by show _=_;rw[hpl];exact(show(Tryz.prog.info? 73).map (·.size)=some 23 by kernel_rfl)
 have N1:Ai 73 (w.alloc (.cells cs.toArray 73)) w.heap.size cs.toArray:=Ai.start _ w _
 have b1:Below w.heap.size w (w.alloc (.cells cs.toArray 73)):=Ae _ _
 have hwn:w.heap.size<(w.alloc (.cells cs.toArray 73)).heap.size:=by simp
 have G1:=hq ((GZ.step (Bo n) (Bp n) b1).more hwn (by have:=GZ.2.2.2.2.1.2.1;omega) (fun g hg=>by have:=(GZ.2.1 g hg).2.1;omega))
 have B1:=hq b1
 have NB:=hq N1
 have HI2:(i:Int)<(D.ns.length:Int):=by omega
 have HIL:=hq hi
 clear GZ N1 b1 hwn HTS hcs;go_enter Tryz.func66,Tryz.ntmps66
 go_upto_region 1 with fail
 generalize hB:w.heap.size=B at *
 generalize (w.alloc (.cells cs.toArray 73))=W1 at *
 have HQB:Hid ((fun g=>False∨g=B) B):=Or.inr rfl
 generalize (fun g=>False∨g=B)=QB at *
 go_cut [22] (fun s22 wx=>s22= .bool (ro==2&& !pl)/\Hid (Below W1.heap.size W1 wx))
 case first=>
  have KE:Hid (∀u,Below W1.heap.size W1 u->(fun u:World=>u.rangeAt B 0 cs/\u.cell? ⟨B,1,none⟩=some (.int .i64 te)/\u.cell? ⟨X,1,none⟩=some (.slice (some ⟨g0,0,none⟩) D.ns.length p0)/\u.rangeAt g0 (i*23) ps) u):=fun u hu=>⟨(NC.out u B (NB.out.step hu)).1,(NC.out u B (NB.out.step hu)).2.2.1,((G1.out.2.2.1.step hu).cells 1).trans rfl,RP.out u (hB ▸ (Below.and (hB.symm ▸ B1.out) hu))⟩
  have RL:Hid (Below W1.heap.size W1 W1.drew):=(Below.refl _ _).drew
  refine wp_region_held_drew (S:=(fun u:World=>u.rangeAt B 0 cs/\u.cell? ⟨B,1,none⟩=some (.int .i64 te)/\u.cell? ⟨X,1,none⟩=some (.slice (some ⟨g0,0,none⟩) D.ns.length p0)/\u.rangeAt g0 (i*23) ps)) (by kernel_rfl) (KE.out _ RL.out) (fun hH=> ?_)
  clear hH;refine tk 0 (oi:=⟨_,_,_,_,_,_⟩) (v:= .agg (cs).toArray) rfl (by kernel_rfl) (fun _ _ _ h=>h) (yieldsIf_load_mid (by kernel_rfl) 73 _ rfl B 0 rfl (cs) _ (fun u hu=>hu.1) Tryz.underlying73 rfl HIN.out) (KE.out _ RL.out) ?_
  try simp only[Act.put,sA,sB,sC]
  refine wpAnyH_ready (rs:=[1]) (by kernel_rfl) (by simp) ?_
  refine AllReadyH.cons (o:=⟨_,_,_,_,_,_⟩) rfl (fun KQ hKK=> ?_) AllReadyH.nil
  refine(if_pos (show Region.wanted _ _=true by kernel_rfl)).mpr ?_
  refine Bm 99 _ _ rfl Pq _ rfl (LD.out _) ?_
  rintro e w3 ⟨rfl,b3⟩
  replace RL:=hq (Below.and RL.out b3)
  clear b3;refine⟨_,rfl, ?_⟩
  refine hKK.out _ _ (KE.out _ RL.out) (fun hH2=> ?_)
  clear hKK KQ hH2;try simp only[Act.put,sA,sB,sC]
  cases hr:(ro==2)
  ·refine tk 2 (oi:=⟨_,_,_,_,_,_⟩) (v:= ?_) rfl (by kernel_rfl) (fun _ _ _ h=>h) (Or.inl ⟨by rfl, ?_⟩) (KE.out _ RL.out) ?_
   rotate_left
   ·(intro u hu;obtain⟨s0,s1,s2,s3⟩:=hu;go_simp)
    try with_reducible rfl
   try simp only[Act.put,sA,sB,sC]
   refine tk 3 (oi:=⟨_,_,_,_,_,_⟩) (v:=undef) rfl (by kernel_rfl) (fun _ _ _ h=>h) (Or.inr ⟨by rfl,rfl⟩) (KE.out _ RL.out) ?_
   try simp only[Act.put,sA,sB,sC]
   refine tk 4 (oi:=⟨_,_,_,_,_,_⟩) (v:=undef) rfl (by kernel_rfl) (fun _ _ _ h=>h) (Or.inr ⟨by rfl,rfl⟩) (KE.out _ RL.out) ?_
   try simp only[Act.put,sA,sB,sC]
   refine tk 5 (oi:=⟨_,_,_,_,_,_⟩) (v:=undef) rfl (by kernel_rfl) (fun _ _ _ h=>h) (Or.inr ⟨by rfl,rfl⟩) (KE.out _ RL.out) ?_
   try simp only[Act.put,sA,sB,sC]
   refine tk 6 (oi:=⟨_,_,_,_,_,_⟩) (v:=undef) rfl (by kernel_rfl) (fun _ _ _ h=>h) (Or.inr ⟨by rfl,rfl⟩) (KE.out _ RL.out) ?_
   try simp only[Act.put,sA,sB,sC]
   refine tk 7 (oi:=⟨_,_,_,_,_,_⟩) (v:=undef) rfl (by kernel_rfl) (fun _ _ _ h=>h) (Or.inr ⟨by rfl,rfl⟩) (KE.out _ RL.out) ?_
   try simp only[Act.put,sA,sB,sC]
   refine tk 8 (oi:=⟨_,_,_,_,_,_⟩) (v:=undef) rfl (by kernel_rfl) (fun _ _ _ h=>h) (Or.inr ⟨by rfl,rfl⟩) (KE.out _ RL.out) ?_
   try simp only[Act.put,sA,sB,sC]
   refine tk 9 (oi:=⟨_,_,_,_,_,_⟩) (v:=undef) rfl (by kernel_rfl) (fun _ _ _ h=>h) (Or.inr ⟨by rfl,rfl⟩) (KE.out _ RL.out) ?_
   try simp only[Act.put,sA,sB,sC]
   refine tk 10 (oi:=⟨_,_,_,_,_,_⟩) (v:=undef) rfl (by kernel_rfl) (fun _ _ _ h=>h) (Or.inr ⟨by rfl,rfl⟩) (KE.out _ RL.out) ?_
   try simp only[Act.put,sA,sB,sC]
   refine tk 11 (oi:=⟨_,_,_,_,_,_⟩) (v:=undef) rfl (by kernel_rfl) (fun _ _ _ h=>h) (Or.inr ⟨by rfl,rfl⟩) (KE.out _ RL.out) ?_
   try simp only[Act.put,sA,sB,sC]
   refine tk 12 (oi:=⟨_,_,_,_,_,_⟩) (v:=undef) rfl (by kernel_rfl) (fun _ _ _ h=>h) (Or.inr ⟨by rfl,rfl⟩) (KE.out _ RL.out) ?_
   try simp only[Act.put,sA,sB,sC]
   refine tk 13 (oi:=⟨_,_,_,_,_,_⟩) (v:=undef) rfl (by kernel_rfl) (fun _ _ _ h=>h) (Or.inr ⟨by rfl,rfl⟩) (KE.out _ RL.out) ?_
   try simp only[Act.put,sA,sB,sC]
   refine tk 14 (oi:=⟨_,_,_,_,_,_⟩) (v:= ?_) rfl (by kernel_rfl) (fun _ _ _ h=>h) (Or.inl ⟨by rfl, ?_⟩) (KE.out _ RL.out) ?_
   rotate_left
   ·(intro u hu;obtain⟨s0,s1,s2,s3⟩:=hu;go_simp)
    try with_reducible rfl
   try simp only[Act.put,sA,sB,sC]
   refine wpAnyH_done (by kernel_rfl) ?_ _
   go_wp2_with fail;go_meet;exact⟨by rw[hr];rfl,RL.out⟩
  ·refine tk 2 (oi:=⟨_,_,_,_,_,_⟩) (v:= ?_) rfl (by kernel_rfl) (fun _ _ _ h=>h) (Or.inl ⟨by rfl, ?_⟩) (KE.out _ RL.out) ?_
   rotate_left
   ·(intro u hu;obtain⟨s0,s1,s2,s3⟩:=hu;go_simp)
    try with_reducible rfl
   try simp only[Act.put,sA,sB,sC]
   refine tk 3 (oi:=⟨_,_,_,_,_,_⟩) (v:= ?_) rfl (by kernel_rfl) (fun _ _ _ h=>h) (Or.inl ⟨by rfl, ?_⟩) (KE.out _ RL.out) ?_
   rotate_left
   ·(intro u hu;obtain⟨s0,s1,s2,s3⟩:=hu;go_simp)
    try with_reducible rfl
   try simp only[Act.put,sA,sB,sC]
   refine tk 4 (oi:=⟨_,_,_,_,_,_⟩) (v:= ?_) rfl (by kernel_rfl) (fun _ _ _ h=>h) (Or.inl ⟨by rfl, ?_⟩) (KE.out _ RL.out) ?_
   rotate_left
   ·(intro u hu;obtain⟨s0,s1,s2,s3⟩:=hu;go_simp)
    try with_reducible rfl
   try simp only[Act.put,sA,sB,sC]
   refine tk 5 (oi:=⟨_,_,_,_,_,_⟩) (v:= ?_) rfl (by kernel_rfl) (fun _ _ _ h=>h) (Or.inl ⟨by rfl, ?_⟩) (KE.out _ RL.out) ?_
   rotate_left
   ·(intro u hu;obtain⟨s0,s1,s2,s3⟩:=hu;go_simp)
    try with_reducible rfl
   try simp only[Act.put,sA,sB,sC]
   refine tk 6 (oi:=⟨_,_,_,_,_,_⟩) (v:= ?_) rfl (by kernel_rfl) (fun _ _ _ h=>h) (Or.inl ⟨by rfl, ?_⟩) (KE.out _ RL.out) ?_
   rotate_left
   ·(intro u hu;obtain⟨s0,s1,s2,s3⟩:=hu;go_simp)
    try with_reducible rfl
   try simp only[Act.put,sA,sB,sC]
   refine tk 7 (oi:=⟨_,_,_,_,_,_⟩) (v:= ?_) rfl (by kernel_rfl) (fun _ _ _ h=>h) (Or.inl ⟨by rfl, ?_⟩) (KE.out _ RL.out) ?_
   rotate_left
   ·(intro u hu;obtain⟨s0,s1,s2,s3⟩:=hu;go_simp)
    try with_reducible rfl
   try simp only[Act.put,sA,sB,sC]
   refine tk 8 (oi:=⟨_,_,_,_,_,_⟩) (v:= ?_) rfl (by kernel_rfl) (fun _ _ _ h=>h) (Or.inl ⟨by rfl, ?_⟩) (KE.out _ RL.out) ?_
   rotate_left
   ·(intro u hu;obtain⟨s0,s1,s2,s3⟩:=hu;go_simp)
    try with_reducible rfl
   try simp only[Act.put,sA,sB,sC]
   refine tk 9 (oi:=⟨_,_,_,_,_,_⟩) (v:= .agg (ps).toArray) rfl (by kernel_rfl) (fun _ _ _ h=>h) (yieldsIf_load_mid (by kernel_rfl) 73 _ rfl g0 (i*23) rfl (ps) _ (fun u hu=>hu.2.2.2) Tryz.underlying73 rfl HIP.out) (KE.out _ RL.out) ?_
   try simp only[Act.put,sA,sB,sC]
   refine tk 10 (oi:=⟨_,_,_,_,_,_⟩) (v:= ?_) rfl (by kernel_rfl) (fun _ _ _ h=>h) (Or.inl ⟨by rfl, ?_⟩) (KE.out _ RL.out) ?_
   rotate_left
   ·(intro u hu;obtain⟨s0,s1,s2,s3⟩:=hu;go_simp)
    try with_reducible rfl
   try simp only[Act.put,sA,sB,sC]
   refine tk 11 (oi:=⟨_,_,_,_,_,_⟩) (v:= ?_) rfl (by kernel_rfl) (fun _ _ _ h=>h) (Or.inl ⟨by rfl, ?_⟩) (KE.out _ RL.out) ?_
   rotate_left
   ·(intro u hu;obtain⟨s0,s1,s2,s3⟩:=hu;go_simp)
    try with_reducible rfl
   try simp only[Act.put,sA,sB,sC]
   refine wpAnyH_ready (rs:=[12]) (by kernel_rfl) (by simp) ?_
   refine AllReadyH.cons (o:=⟨_,_,_,_,_,_⟩) rfl (fun KQ hKK=> ?_) AllReadyH.nil
   refine(if_pos (show Region.wanted _ _=true by kernel_rfl)).mpr ?_
   refine Bm 100 _ _ rfl KY _ rfl (LI.out _) ?_
   rintro e w4 ⟨rfl,b3⟩
   replace RL:=hq (Below.and RL.out b3)
   clear b3;refine⟨_,rfl, ?_⟩
   refine hKK.out _ _ (KE.out _ RL.out) (fun hH2=> ?_)
   clear hKK KQ hH2;try simp only[Act.put,sA,sB,sC]
   refine tk 13 (oi:=⟨_,_,_,_,_,_⟩) (v:= ?_) rfl (by kernel_rfl) (fun _ _ _ h=>h) (Or.inl ⟨by rfl, ?_⟩) (KE.out _ RL.out) ?_
   rotate_left
   ·(intro u hu;obtain⟨s0,s1,s2,s3⟩:=hu;go_simp)
    try with_reducible rfl
   try simp only[Act.put,sA,sB,sC]
   refine tk 14 (oi:=⟨_,_,_,_,_,_⟩) (v:= ?_) rfl (by kernel_rfl) (fun _ _ _ h=>h) (Or.inl ⟨by rfl, ?_⟩) (KE.out _ RL.out) ?_
   rotate_left
   ·(intro u hu;obtain⟨s0,s1,s2,s3⟩:=hu;go_simp)
    try with_reducible rfl
   try simp only[Act.put,sA,sB,sC]
   refine wpAnyH_done (by kernel_rfl) ?_ _
   go_wp2_with fail;go_meet;exact⟨by rw[hr];cases pl<;>rfl,RL.out⟩
 case rest=>
  clear LD LI RP HIP;obtain⟨rfl,BZ⟩:=hcut
  have G2:=hq (G1.out.step (Bo n) (Bp n) BZ.out)
  have B2:=hq (Below.and (hB.symm ▸ B1.out) BZ.out)
  have NB1:=NB
  clear G1 BZ B1;generalize (ro==2&& !pl)=bb at *
  go_upto_if 22 with fail
  go_cut [] (fun wx=>∃(F:Nat->Prop) (lv' :Value),Hid (NtG (De n) (Dh n) w0 W1 X QB sz rv av wx F (.slice (some ⟨g0,0,none⟩) D.ns.length p0) cv lv' ⟨D.ns,D.rs,D.cs,D.ds,D.ls++nl⟩))
  case first=>
   obtain⟨la,lq,hlv⟩:=G2.out.1.led.1.slice
   simp only at hlv
   subst hlv
   cases bb
   ·have e:nl=[]:=by rw[NL];rfl
    go_wp2_with fail;go_meet;exact⟨F,_,by rw[e,List.append_nil];exact G2.out⟩
   ·have e:nl=ntF te id D.ls.length:=by rw[NL];rfl
    obtain⟨i0,hi0,hz0,hz1,hz2⟩:=info_parts (show(Tryz.prog.info? 121).map (fun i=>(i.zero,i.size,i.bytes))=some (some (.agg #[.int .i64 0, .int .i64 0]),2,16) by kernel_rfl)
    have BS:=Bw (P:=Tryz.prog) 121 i0 _ 2 hi0 hz0 hz1 (by decide) (by decide) [.int .i64 te, .int .i64 id] rfl
    go_upto_region 2 with fail
    obtain⟨ms,hms⟩:∃ms:List Value,ms=[.int .i64 te, .int .i64 id]:=⟨_,rfl⟩
    have hml:ms.length=2:=by rw[hms];rfl
    rw[←hms] at BS
    have KE:Hid (∀u,Below wc.heap.size wc u->(fun u:World=>u.cell? ⟨X,5,none⟩=some (.slice la D.ls.length lq)/\u.cell? ⟨B,1,none⟩=some (.int .i64 te)/\u.cell? ⟨B,0,none⟩=some (.int .i64 id)) u):=fun u hu=>by
     have g:=G2.out.step (Bo n) (Bp n) hu
     have m:=NC.out u B (g.kept HQB.out NB.out)
     exact⟨(g.2.2.1.cells 5).trans rfl,m.2.2.1,m.2.1⟩
    have RL:Hid (Below wc.heap.size wc wc.drew):=(Below.refl _ _).drew
    refine BA (fun u:World=>u.cell? ⟨X,5,none⟩=some (.slice la D.ls.length lq)/\u.cell? ⟨B,1,none⟩=some (.int .i64 te)/\u.cell? ⟨B,0,none⟩=some (.int .i64 id)) [_,_,_,_,_,_,_,_,_,_,_,_,_,_,_,_,_,_,_,_] _ rfl (by kernel_rfl) (by kernel_rfl) ?_
    refine tk 0 (oi:=⟨_,_,_,_,_,_⟩) (v:= ?_) rfl (by kernel_rfl) (fun _ _ _ h=>h) (Or.inl ⟨by rfl, ?_⟩) (KE.out _ RL.out) ?_
    rotate_left
    ·(intro u hu;obtain⟨s0,s1,s2⟩:=hu;go_simp)
     try with_reducible rfl
    try simp only[Act.put,sA,sB,sC]
    refine tk 1 (oi:=⟨_,_,_,_,_,_⟩) (v:= ?_) rfl (by kernel_rfl) (fun _ _ _ h=>h) (Or.inl ⟨by rfl, ?_⟩) (KE.out _ RL.out) ?_
    rotate_left
    ·(intro u hu;obtain⟨s0,s1,s2⟩:=hu;go_simp)
     try with_reducible rfl
    try simp only[Act.put,sA,sB,sC]
    refine tk 2 (oi:=⟨_,_,_,_,_,_⟩) (v:= ?_) rfl (by kernel_rfl) (fun _ _ _ h=>h) (Or.inl ⟨by rfl, ?_⟩) (KE.out _ RL.out) ?_
    rotate_left
    ·(intro u hu;obtain⟨s0,s1,s2⟩:=hu;go_simp)
     try with_reducible rfl
    try simp only[Act.put,sA,sB,sC]
    refine tk 3 (oi:=⟨_,_,_,_,_,_⟩) (v:= ?_) rfl (by kernel_rfl) (fun _ _ _ h=>h) (Or.inl ⟨by rfl, ?_⟩) (KE.out _ RL.out) ?_
    rotate_left
    ·(intro u hu;obtain⟨s0,s1,s2⟩:=hu;go_simp)
     try with_reducible rfl
    try simp only[Act.put,sA,sB,sC]
    refine tk 4 (oi:=⟨_,_,_,_,_,_⟩) (v:= ?_) rfl (by kernel_rfl) (fun _ _ _ h=>h) (Or.inl ⟨by rfl, ?_⟩) (KE.out _ RL.out) ?_
    rotate_left
    ·(intro u hu;obtain⟨s0,s1,s2⟩:=hu;go_simp)
     try with_reducible rfl
    try simp only[Act.put,sA,sB,sC]
    refine tk 5 (oi:=⟨_,_,_,_,_,_⟩) (v:= ?_) rfl (by kernel_rfl) (fun _ _ _ h=>h) (Or.inl ⟨by rfl, ?_⟩) (KE.out _ RL.out) ?_
    rotate_left
    ·(intro u hu;obtain⟨s0,s1,s2⟩:=hu;go_simp)
     try with_reducible rfl
    try simp only[Act.put,sA,sB,sC]
    refine tk 6 (oi:=⟨_,_,_,_,_,_⟩) (v:= ?_) rfl (by kernel_rfl) (fun _ _ _ h=>h) (Or.inl ⟨by rfl, ?_⟩) (KE.out _ RL.out) ?_
    rotate_left
    ·(intro u hu;obtain⟨s0,s1,s2⟩:=hu;go_simp)
     try with_reducible rfl
    try simp only[Act.put,sA,sB,sC]
    refine tk 7 (oi:=⟨_,_,_,_,_,_⟩) (v:= ?_) rfl (by kernel_rfl) (fun _ _ _ h=>h) (Or.inl ⟨by rfl, ?_⟩) (KE.out _ RL.out) ?_
    rotate_left
    ·(intro u hu;obtain⟨s0,s1,s2⟩:=hu;go_simp)
     try with_reducible rfl
    try simp only[Act.put,sA,sB,sC]
    refine tk 8 (oi:=⟨_,_,_,_,_,_⟩) (v:= ?_) rfl (by kernel_rfl) (fun _ _ _ h=>h) (Or.inl ⟨by rfl, ?_⟩) (KE.out _ RL.out) ?_
    rotate_left
    ·(intro u hu;obtain⟨s0,s1,s2⟩:=hu;go_simp)
     try with_reducible rfl
    try simp only[Act.put,sA,sB,sC]
    refine tk 9 (oi:=⟨_,_,_,_,_,_⟩) (v:= ?_) rfl (by kernel_rfl) (fun _ _ _ h=>h) (Or.inl ⟨by rfl, ?_⟩) (KE.out _ RL.out) ?_
    rotate_left
    ·(intro u hu;obtain⟨s0,s1,s2⟩:=hu;go_simp)
     try with_reducible rfl
    try simp only[Act.put,sA,sB,sC]
    rw[show(#[.int .i64 te, .int .i64 id]:Array Value)=ms.toArray by rw[hms]]
    refine tk 11 (oi:=⟨_,_,_,_,_,_⟩) (v:= ?_) rfl (by kernel_rfl) (fun _ _ _ h=>h) (Or.inl ⟨by rfl, ?_⟩) (KE.out _ RL.out) ?_
    rotate_left
    ·(intro u hu;obtain⟨s0,s1,s2⟩:=hu;go_simp)
     try with_reducible rfl
    try simp only[Act.put,sA,sB,sC]
    refine tk 12 (oi:=⟨_,_,_,_,_,_⟩) (v:= ?_) rfl (by kernel_rfl) (fun _ _ _ h=>h) (Or.inl ⟨by rfl, ?_⟩) (KE.out _ RL.out) ?_
    rotate_left
    ·(intro u hu;obtain⟨s0,s1,s2⟩:=hu;go_simp)
     try with_reducible rfl
    try simp only[Act.put,sA,sB,sC]
    refine tk 13 (oi:=⟨_,_,_,_,_,_⟩) (v:= ?_) rfl (by kernel_rfl) (fun _ _ _ h=>h) (Or.inl ⟨by rfl, ?_⟩) (KE.out _ RL.out) ?_
    rotate_left
    ·(intro u hu;obtain⟨s0,s1,s2⟩:=hu;go_simp)
     try with_reducible rfl
    try simp only[Act.put,sA,sB,sC]
    refine tk 14 (oi:=⟨_,_,_,_,_,_⟩) (v:= ?_) rfl (by kernel_rfl) (fun _ _ _ h=>h) (Or.inl ⟨by rfl, ?_⟩) (KE.out _ RL.out) ?_
    rotate_left
    ·(intro u hu;obtain⟨s0,s1,s2⟩:=hu;go_simp)
     try with_reducible rfl
    try simp only[Act.put,sA,sB,sC]
    refine tk 15 (oi:=⟨_,_,_,_,_,_⟩) (v:= ?_) rfl (by kernel_rfl) (fun _ _ _ h=>h) (Or.inl ⟨by rfl, ?_⟩) (KE.out _ RL.out) ?_
    rotate_left
    ·(intro u hu;obtain⟨s0,s1,s2⟩:=hu;go_simp)
     try with_reducible rfl
    try simp only[Act.put,sA,sB,sC]
    refine wpAnyH_ready (rs:=[10]) (by kernel_rfl) (by simp) ?_
    refine AllReadyH.cons (o:=⟨_,_,_,_,_,_⟩) rfl (fun KQ hKK=> ?_) AllReadyH.nil
    refine(if_pos (show Region.wanted _ _=true by kernel_rfl)).mpr ?_
    refine D9 35 121 1 _ rfl Tryz.underlying35 ms.toArray (by rw[Array.toList_map];exact BS) ?_
    have HR:Hid (Row (wc.drew.alloc (.cells ms.toArray 121)) (.slice (some ⟨wc.drew.heap.size,0,none⟩) 1 1) 1 ms):=Row.laid wc.drew ms 121 _ rfl
    replace RL:=hq (Below.and RL.out (Ae wc.drew (.cells ms.toArray 121)))
    refine hKK.out _ _ (KE.out _ RL.out) (fun hH2=> ?_)
    clear hKK KQ hH2;try simp only[Act.put,sA,sB,sC]
    generalize (wc.drew.alloc (.cells ms.toArray 121))=W4 at *
    generalize wc.drew.heap.size=blk at *
    refine wpAnyH_ready (rs:=[16]) (by kernel_rfl) (by simp) ?_
    refine AllReadyH.cons (o:=⟨_,_,_,_,_,_⟩) rfl (fun KQ hKK=> ?_) AllReadyH.nil
    refine(if_pos (show Region.wanted _ _=true by kernel_rfl)).mpr ?_
    refine Bm 101 _ _ rfl Rq _ rfl (Jd (some ⟨blk,0,none⟩) 1 1 D.ls.length 2000 (Nat.le_refl _) (by omega) (by omega) (by omega) W4) ?_
    rintro e w4 ⟨rfl,hw4⟩
    subst hw4;refine⟨_,rfl, ?_⟩
    refine hKK.out _ _ (KE.out _ RL.out) (fun hH2=> ?_)
    clear hKK KQ hH2;try simp only[Act.put,sA,sB,sC]
    rw[hms] at HR
    have RR1:=hq (OY D.ls.length HR.out)
    rw[←e] at RR1
    clear HR hms BS hml;generalize CQ (some ⟨blk,0,none⟩) 1 1 D.ls.length 2000=rmv at *
    have HNL:Hid (nl.length<=1):=by rw[e];unfold ntF;split<;>(show _<=_;simp)
    obtain⟨n1,n2⟩:=Qz nl
    have OE:=hq ((G2.out.1.led.1).below RL.out)
    refine wpAnyH_ready (rs:=[17]) (by kernel_rfl) (by simp) ?_
    refine AllReadyH.cons (o:=⟨_,_,_,_,_,_⟩) rfl (fun KQ hKK=> ?_) AllReadyH.nil
    refine(if_pos (show Region.wanted _ _=true by kernel_rfl)).mpr ?_
    refine DW w4 _ _ 35 rfl 0 121 i0 _ 2 16 Tryz.underlying35 hi0 hz0 hz1 hz2 rfl (by decide) (.slice la D.ls.length lq) D.ls.length (D.ls.map AN).flatten rfl OE.out rmv nl.length (nl.map AN).flatten rfl RR1.out n1 n2 (by have:=HNL.out;unfold maxLen;omega) (by have:=HNL.out;omega) (Nat.zero_le _) ?_
    intro v' x AP;obtain⟨bx,kq,F2,g2⟩:=G2.out.addL (Bo n) (Bp n) RL.out AP
    obtain⟨a8,q8,hv8⟩:=Ac.slice AP.1
    generalize hl8:D.ls.length+nl.length=ln8 at hv8
    subst hv8;have m:=NC.out x B ((kq B HQB.out).trans NB.out)
    have SX:Hid (x.cell? ⟨X,5,none⟩=some (.slice la D.ls.length lq)/\x.cell? ⟨B,1,none⟩=some (.int .i64 te)/\x.cell? ⟨B,0,none⟩=some (.int .i64 id)):=⟨(bx.cells 5).trans rfl,m.2.2.1,m.2.1⟩
    have BX:=hq bx
    have FIN:=hq g2
    clear bx kq g2 AP m OE RR1 n1 n2 HNL hl8 KE RL;refine hKK.out _ _ SX.out (fun hH2=> ?_)
    clear hKK KQ hH2;try simp only[Act.put,sA,sB,sC]
    refine tk 18 (oi:=⟨_,_,_,_,_,_⟩) (v:= ?_) rfl (by kernel_rfl) (fun _ _ _ h=>h) (Or.inl ⟨by rfl, ?_⟩) SX.out ?_
    rotate_left
    ·(intro u hu;obtain⟨s0,s1,s2⟩:=hu;go_simp)
     try with_reducible rfl
    try simp only[Act.put,sA,sB,sC]
    refine tk 19 (oi:=⟨_,_,_,_,_,_⟩) (v:= ?_) rfl (by kernel_rfl) (fun _ _ _ h=>h) (Or.inl ⟨by rfl, ?_⟩) SX.out ?_
    rotate_left
    ·(intro u hu;obtain⟨s0,s1,s2⟩:=hu;go_simp)
     try with_reducible rfl
    try simp only[Act.put,sA,sB,sC]
    clear SX;refine wpAnyH_done (by kernel_rfl) ?_ _
    show Oper.wp _ _ _ _ _ _
    have c5:=BX.out.cells
    have f5:∀q,x.frozen? ⟨X,q,none⟩=false:=fun q=>Ab BX.out
    go_wp2_with fail;go_meet;exact⟨F2,_,FIN.out⟩
  case rest=>
   clear G2 NL NB1;obtain⟨F3,lv3,G3⟩:=hcut
   obtain⟨ca,cq,hcv⟩:=G3.out.1.cmd.1.slice
   simp only at hcv
   subst hcv;have B3:=hq G3.out.2.2.2.1
   have SB:Hid (∀u,Below wc.heap.size wc u->(fun u:World=>u.rangeAt B 0 cs/\u.cell? ⟨X,3,none⟩=some (.slice ca D.cs.length cq)) u):=fun u hu=>by
    have g:=G3.out.step (Bo n) (Bp n) hu
    exact⟨(NC.out u B (g.kept HQB.out NB.out)).1,(g.2.2.1.cells 3).trans rfl⟩
   go_upto_region 3 with fail
   have RL:Hid (Below wc.heap.size wc wc.drew):=(Below.refl _ _).drew
   refine wp_region_held_drew (S:=(fun u:World=>u.rangeAt B 0 cs/\u.cell? ⟨X,3,none⟩=some (.slice ca D.cs.length cq))) (by kernel_rfl) (SB.out _ RL.out) (fun hH=> ?_)
   clear hH;refine tk 0 (oi:=⟨_,_,_,_,_,_⟩) (v:= .agg (cs).toArray) rfl (by kernel_rfl) (fun _ _ _ h=>h) (yieldsIf_load_mid (by kernel_rfl) 73 _ rfl B 0 rfl (cs) _ (fun u hu=>hu.1) Tryz.underlying73 rfl HIN.out) (SB.out _ RL.out) ?_
   try simp only[Act.put,sA,sB,sC]
   refine tk 1 (oi:=⟨_,_,_,_,_,_⟩) (v:= ?_) rfl (by kernel_rfl) (fun _ _ _ h=>h) (Or.inl ⟨by rfl, ?_⟩) (SB.out _ RL.out) ?_
   rotate_left
   ·(intro u hu;obtain⟨s0,s1⟩:=hu;go_simp)
    try with_reducible rfl
   try simp only[Act.put,sA,sB,sC]
   refine tk 2 (oi:=⟨_,_,_,_,_,_⟩) (v:= ?_) rfl (by kernel_rfl) (fun _ _ _ h=>h) (Or.inl ⟨by rfl, ?_⟩) (SB.out _ RL.out) ?_
   rotate_left
   ·(intro u hu;obtain⟨s0,s1⟩:=hu;go_simp)
    try with_reducible rfl
   try simp only[Act.put,sA,sB,sC]
   refine tk 3 (oi:=⟨_,_,_,_,_,_⟩) (v:= ?_) rfl (by kernel_rfl) (fun _ _ _ h=>h) (Or.inl ⟨by rfl, ?_⟩) (SB.out _ RL.out) ?_
   rotate_left
   ·(intro u hu;obtain⟨s0,s1⟩:=hu;go_simp)
    try with_reducible rfl
   try simp only[Act.put,sA,sB,sC]
   refine tk 4 (oi:=⟨_,_,_,_,_,_⟩) (v:= ?_) rfl (by kernel_rfl) (fun _ _ _ h=>h) (Or.inl ⟨by rfl, ?_⟩) (SB.out _ RL.out) ?_
   rotate_left
   ·(intro u hu;obtain⟨s0,s1⟩:=hu;go_simp)
    try with_reducible rfl
   try simp only[Act.put,sA,sB,sC]
   refine tk 5 (oi:=⟨_,_,_,_,_,_⟩) (v:= ?_) rfl (by kernel_rfl) (fun _ _ _ h=>h) (Or.inl ⟨by rfl, ?_⟩) (SB.out _ RL.out) ?_
   rotate_left
   ·(intro u hu;obtain⟨s0,s1⟩:=hu;go_simp)
    try with_reducible rfl
   try simp only[Act.put,sA,sB,sC]
   refine tk 8 (oi:=⟨_,_,_,_,_,_⟩) (v:= ?_) rfl (by kernel_rfl) (fun _ _ _ h=>h) (Or.inl ⟨by rfl, ?_⟩) (SB.out _ RL.out) ?_
   rotate_left
   ·(intro u hu;obtain⟨s0,s1⟩:=hu;go_simp)
    try with_reducible rfl
   try simp only[Act.put,sA,sB,sC]
   refine wpAnyH_ready (rs:=[6]) (by kernel_rfl) (by simp) ?_
   refine AllReadyH.cons (o:=⟨_,_,_,_,_,_⟩) rfl (fun KQ hKK=> ?_) AllReadyH.nil
   refine(if_pos (show Region.wanted _ _=true by kernel_rfl)).mpr ?_
   refine Bm 102 _ _ rfl Qu _ rfl (CB.out _ (Below.and B3.out RL.out)) ?_
   rintro e w3 ⟨ta,tq,rfl,rt,fr,b3⟩
   replace RL:=hq (Below.and RL.out b3)
   have RT:=hq rt
   have FR:Hid (0<ts.length->∃g,ta=some ⟨g,0,none⟩/\wc.heap.size<=g/\g<w3.heap.size):=fr
   clear b3 rt fr;refine⟨_,rfl, ?_⟩
   refine hKK.out _ _ (SB.out _ RL.out) (fun hH2=> ?_)
   clear hKK KQ hH2;try simp only[Act.put,sA,sB,sC]
   refine tk 7 (oi:=⟨_,_,_,_,_,_⟩) (v:= ?_) rfl (by kernel_rfl) (fun _ _ _ h=>h) (Or.inl ⟨by rfl, ?_⟩) (SB.out _ RL.out) ?_
   rotate_left
   ·(intro u hu;obtain⟨s0,s1⟩:=hu;go_simp)
    try with_reducible rfl
   try simp only[Act.put,sA,sB,sC]
   refine wpAnyH_done (by kernel_rfl) ?_ _
   have G4:=hq (G3.out.step (Bo n) (Bp n) RL.out)
   clear SB RL B3;generalize HW3:w3=W3 at *
   clear HW3;obtain⟨a5,b5,o5,q5,hv5,_,_,ha5,hrg5⟩:=Row.rangeL (B8 (cs:=I7) (K:=6) (fun _=>rfl) ts) (by rw[List.length_map, ← JR];exact RT.out)
   simp only[Value.slice.injEq,true_and,List.length_map] at hv5
   obtain⟨rfl,_,rfl⟩:=hv5
   have HA5:Hid (0<ts.length->ta=some ⟨b5,o5,none⟩):=fun h=>ha5 (by rw[List.length_map];exact h)
   have RG5:Hid (∀u,Below W3.heap.size W3 u->∀j (hj:j<ts.length),u.rangeAt b5 (o5+j*6) (I7 ts[j])):=fun u hu j hj=>by have:=hrg5 u hu j (by rw[List.length_map];exact hj);rw[List.getElem_map] at this;exact this
   have NB3:=hq (G4.out.kept HQB.out NB.out)
   have HY:∃Y,(Y<W3.heap.size/\Y≠X/\∀g,F3 g->g≠Y)/\(0<ts.length->Y=b5):=by
    by_cases h0:0<ts.length
    ·obtain⟨g,e1,e2,e3⟩:=FR.out h0
     have e4:=HA5.out h0
     rw[e1] at e4
     simp only[Option.some.injEq,Addr.mk.injEq,and_true] at e4
     obtain⟨rfl,_⟩:=e4
     exact⟨g,⟨e3,by have:=G3.out.2.2.2.2.1.2.1;omega,fun q hq0=>by have:=(G3.out.2.1 q hq0).2.1;omega⟩,fun _=>rfl⟩
    ·exact⟨B,⟨by have:=(G4.out.2.2.2.2.2 B HQB.out).1;have:=G4.out.2.2.2.2.1.2.2.2;omega,fun e=>G4.out.2.2.2.2.1.2.2.1 (e ▸ HQB.out),fun q hq0 e=>(G4.out.2.1 q hq0).2.2.2 (e ▸ HQB.out)⟩,fun h=>absurd h h0⟩
   obtain⟨Y,⟨y1,y2,y3⟩,y4⟩:=HY
   have G5:=hq (G4.out.more y1 y2 y3)
   have QY:Hid (∀wr:World,(∀g,(QB g∨g=Y)->wr.heap[g]? =W3.heap[g]?)->∀j (hj:j<ts.length),wr.rangeAt b5 (o5+j*6) (I7 ts[j])):=fun wr h j hj k v hv=>by
    have e:=y4 (by omega)
    rw[World.cell?_of_block (h b5 (.inr e.symm))]
    exact RG5.out W3 (Below.refl _ _) j hj k v hv
   have HQ5:Hid ((fun g=>QB g∨g=Y) B):=Or.inl HQB.out
   clear ha5 hrg5 RT y1 y2 y3 y4 G4 G3 FR RG5;generalize hQ5:(fun g=>QB g∨g=Y)=Q5 at *
   have QY2:Hid (∀wr:World,(∀g,Q5 g->wr.heap[g]? =W3.heap[g]?)->∀j (hj:j<ts.length),wr.rangeAt b5 (o5+j*6) (I7 ts[j])):=fun wr h=>QY.out wr (fun g hg=>h g (by rw[←hQ5];exact hg))
   clear QY hQ5;obtain⟨i0,hi0,hz0,hz1,hz2⟩:=info_parts (show(Tryz.prog.info? 117).map (fun i=>(i.zero,i.size,i.bytes))=some (some (.agg #[.int .i64 0, .int .i64 0, .int .i64 0, .int .i64 0, .int .i64 0]),5,40) by kernel_rfl)
   have BS:=hq (fun (ks:List Value) (hl:ks.length=5)=>Bw (P:=Tryz.prog) 117 i0 _ 5 hi0 hz0 hz1 (by decide) (by decide) ks hl)
   have hts:ts.length<=2000:=HT.out
   go_wp2_with fail;go_loopw [51] (fun i wr=>∃(j:Nat) (F:Nat->Prop) (cv' :Value),j<=ts.length/\i= .int .i64 j/\Hid (NtG (De n) (Dh n) w0 W3 X Q5 sz rv av wr F (.slice (some ⟨g0,0,none⟩) D.ns.length p0) cv' lv3 ⟨D.ns,D.rs,D.cs++(ts.take j).map Ct,D.ds,D.ls++nl⟩))
    (fun i _=>ts.length-(intOf i).toNat)
   case atStart=>exact⟨0,F3,_,Nat.zero_le _,rfl,by rw[List.take_zero,List.map_nil,List.append_nil];exact G5.out⟩
   case round=>
    clear G5;obtain⟨j,F4,cv4,hj,rfl,G⟩:=hrel
    by_cases hlt:j<ts.length
    ·have hi2:(j:Int)<(ts.length:Int):=by omega
     have hal:=HA5.out (by omega)
     subst hal;obtain⟨ks,hks⟩:∃ks:List Value,ks=I7 ts[j]:=⟨_,rfl⟩
     have hkl:ks.length=6:=by rw[hks];rfl
     obtain⟨kc,hkc⟩:∃kc:List Value,kc=AM (Ct ts[j]):=⟨_,rfl⟩
     have hcl5:kc.length=5:=by rw[hkc];rfl
     have hk15:Hid (ks.drop 1=kc):=by rw[hks,hkc];exact(rfl:(I7 ts[j]).drop 1=AM (Ct ts[j]))
     have RU:Hid (wr.rangeAt b5 (o5+j*6) ks):=by rw[hks];exact QY2.out wr (fun g hg=>(G.out.2.2.2.2.2 g hg).2) j hlt
     have ONE:Hid (ks.toArray.all (·.oneCell')=true):=by show _=_;rw[hks];simp[I7,Value.oneCell']
     have ONC:Hid (∀y∈kc,y.oneCell' =true):=fun y hy=>by rw[hkc] at hy;simp[AM] at hy;rcases hy with rfl|rfl|rfl|rfl|rfl<;>rfl
     have KC:Hid (kc=AM (Ct ts[j])):=hkc
     clear hks hkc;have A1:Hid (Below wr.heap.size wr (wr.alloc (.cells #[.int .i64 0, .int .i64 0, .int .i64 0, .int .i64 0, .int .i64 0, .int .i64 0] 119))):=Ae _ _
     have AY:Hid (Ai 119 (wr.alloc (.cells #[.int .i64 0, .int .i64 0, .int .i64 0, .int .i64 0, .int .i64 0, .int .i64 0] 119)) wr.heap.size #[.int .i64 0, .int .i64 0, .int .i64 0, .int .i64 0, .int .i64 0, .int .i64 0]):=Ai.start _ wr _
     have TH:Hid ((wr.alloc (.cells #[.int .i64 0, .int .i64 0, .int .i64 0, .int .i64 0, .int .i64 0, .int .i64 0] 119)).there wr.heap.size 0 ks.toArray.size):=Ba AY.out (show 6=ks.toArray.size by rw[List.size_toArray,hkl])
     have HM2:Hid ((Tryz.prog.info? 119).map (·.size)=some ks.toArray.size):=by show _=_;rw[List.size_toArray,hkl];exact(show(Tryz.prog.info? 119).map (·.size)=some 6 by kernel_rfl)
     have HM1:Hid ((Tryz.prog.info? 119).map (·.size)=some ks.length):=by show _=_;rw[hkl];exact(show(Tryz.prog.info? 119).map (·.size)=some 6 by kernel_rfl)
     have HMC:Hid ((Tryz.prog.info? 117).map (·.size)=some kc.length):=by show _=_;rw[hcl5];exact(show(Tryz.prog.info? 117).map (·.size)=some 5 by kernel_rfl)
     have GC:Chg (fun g=>g=wr.heap.size) (wr.alloc (.cells #[.int .i64 0, .int .i64 0, .int .i64 0, .int .i64 0, .int .i64 0, .int .i64 0] 119)) ((wr.alloc (.cells #[.int .i64 0, .int .i64 0, .int .i64 0, .int .i64 0, .int .i64 0, .int .i64 0] 119)).setCells wr.heap.size 0 ks):=Chg.setCells (F:=fun g=>g=wr.heap.size) (g:=wr.heap.size) (fun _=>rfl) ks 0 _ (Chg.refl _ _)
     have XF:Ai 119 ((wr.alloc (.cells #[.int .i64 0, .int .i64 0, .int .i64 0, .int .i64 0, .int .i64 0, .int .i64 0] 119)).setCells wr.heap.size 0 ks) wr.heap.size ks.toArray:=A7 AY.out ks (by rw[hkl];rfl)
     have XFH:=hq XF
     have XR:Hid (∀u,Ai 119 u wr.heap.size ks.toArray->u.rangeAt wr.heap.size 1 kc):=fun u h=>by
      have:=World.rangeAt_of_block h 1 5
      rw[show(ks.toArray.extract 1 (1+5)).toList=kc by rw[←hk15.out];simp;rw[List.take_of_length_le (by rw[List.length_tail,hkl];exact Nat.le_refl _)]] at this
      exact this
     have B3:Hid (Below wr.heap.size wr ((wr.alloc (.cells #[.int .i64 0, .int .i64 0, .int .i64 0, .int .i64 0, .int .i64 0, .int .i64 0] 119)).setCells wr.heap.size 0 ks)):=A1.out.trans (GC.below (fun g _ hg=>by omega) A1.out.size)
     clear GC AY A1 XF;go_upto_region 6 with(first|(refine wpList_load_mid rfl 119 _ rfl b5 (o5+j*6) rfl ks _ RU.out Tryz.underlying119 rfl HM1.out ?_)|(refine wpList_store_mid rfl 119 _ _ rfl wr.heap.size 0 ks.toArray rfl rfl TH.out HM2.out ONE.out ?_))
     generalize ((wr.alloc (.cells #[.int .i64 0, .int .i64 0, .int .i64 0, .int .i64 0, .int .i64 0, .int .i64 0] 119)).setCells wr.heap.size 0 ks)=U3 at *
     clear TH RU HM1 HM2 ONE;obtain⟨a9,q9,hv9⟩:=Ac.slice G.out.1.cmd.1
     simp only at hv9
     have LT:Hid ((D.cs++(ts.take j).map Ct).length=D.cs.length+j):=by show _=_;rw[List.length_append,List.length_map,List.length_take];omega
     generalize hLN:(D.cs++(ts.take j).map Ct).length=ln at hv9
     subst hv9;have LNH:=hq hLN
     clear hLN;have KE:Hid (∀u,Below U3.heap.size U3 u->(fun u:World=>u.rangeAt wr.heap.size 1 kc/\u.cell? ⟨X,3,none⟩=some (.slice a9 ln q9)) u):=fun u hu=>⟨XR.out u (XFH.out.step hu),(((G.out.step (Bo n) (Bp n) B3.out).step (Bo n) (Bp n) hu).2.2.1.cells 3).trans rfl⟩
     have RL:Hid (Below U3.heap.size U3 U3.drew):=(Below.refl _ _).drew
     refine BA (fun u:World=>u.rangeAt wr.heap.size 1 kc/\u.cell? ⟨X,3,none⟩=some (.slice a9 ln q9)) [_,_,_,_,_,_,_,_,_,_,_] _ rfl (by kernel_rfl) (by kernel_rfl) ?_
     refine tk 0 (oi:=⟨_,_,_,_,_,_⟩) (v:= ?_) rfl (by kernel_rfl) (fun _ _ _ h=>h) (Or.inl ⟨by rfl, ?_⟩) (KE.out _ RL.out) ?_
     rotate_left
     ·(intro u hu;obtain⟨s0,s1⟩:=hu;go_simp)
      try with_reducible rfl
     try simp only[Act.put,sA,sB,sC]
     refine tk 1 (oi:=⟨_,_,_,_,_,_⟩) (v:= ?_) rfl (by kernel_rfl) (fun _ _ _ h=>h) (Or.inl ⟨by rfl, ?_⟩) (KE.out _ RL.out) ?_
     rotate_left
     ·(intro u hu;obtain⟨s0,s1⟩:=hu;go_simp)
      try with_reducible rfl
     try simp only[Act.put,sA,sB,sC]
     refine tk 2 (oi:=⟨_,_,_,_,_,_⟩) (v:= ?_) rfl (by kernel_rfl) (fun _ _ _ h=>h) (Or.inl ⟨by rfl, ?_⟩) (KE.out _ RL.out) ?_
     rotate_left
     ·(intro u hu;obtain⟨s0,s1⟩:=hu;go_simp)
      try with_reducible rfl
     try simp only[Act.put,sA,sB,sC]
     refine tk 3 (oi:=⟨_,_,_,_,_,_⟩) (v:= ?_) rfl (by kernel_rfl) (fun _ _ _ h=>h) (Or.inl ⟨by rfl, ?_⟩) (KE.out _ RL.out) ?_
     rotate_left
     ·(intro u hu;obtain⟨s0,s1⟩:=hu;go_simp)
      try with_reducible rfl
     try simp only[Act.put,sA,sB,sC]
     refine tk 4 (oi:=⟨_,_,_,_,_,_⟩) (v:= ?_) rfl (by kernel_rfl) (fun _ _ _ h=>h) (Or.inl ⟨by rfl, ?_⟩) (KE.out _ RL.out) ?_
     rotate_left
     ·(intro u hu;obtain⟨s0,s1⟩:=hu;go_simp)
      try with_reducible rfl
     try simp only[Act.put,sA,sB,sC]
     refine tk 5 (oi:=⟨_,_,_,_,_,_⟩) (v:= ?_) rfl (by kernel_rfl) (fun _ _ _ h=>h) (Or.inl ⟨by rfl, ?_⟩) (KE.out _ RL.out) ?_
     rotate_left
     ·(intro u hu;obtain⟨s0,s1⟩:=hu;go_simp)
      try with_reducible rfl
     try simp only[Act.put,sA,sB,sC]
     refine tk 6 (oi:=⟨_,_,_,_,_,_⟩) (v:= .agg (kc).toArray) rfl (by kernel_rfl) (fun _ _ _ h=>h) (yieldsIf_load_mid (by kernel_rfl) 117 _ rfl wr.heap.size 1 rfl (kc) _ (fun u hu=>hu.1) Tryz.underlying117 rfl HMC.out) (KE.out _ RL.out) ?_
     try simp only[Act.put,sA,sB,sC]
     refine wpAnyH_ready (rs:=[7]) (by kernel_rfl) (by simp) ?_
     refine AllReadyH.cons (o:=⟨_,_,_,_,_,_⟩) rfl (fun KQ hKK=> ?_) AllReadyH.nil
     refine(if_pos (show Region.wanted _ _=true by kernel_rfl)).mpr ?_
     refine D9 33 117 1 _ rfl Tryz.underlying33 kc.toArray (by rw[Array.toList_map];exact BS.out kc hcl5) ?_
     have HR:Hid (Row (U3.drew.alloc (.cells kc.toArray 117)) (.slice (some ⟨U3.drew.heap.size,0,none⟩) 1 1) 1 kc):=Row.laid U3.drew kc 117 _ rfl
     replace RL:=hq (Below.and RL.out (Ae U3.drew (.cells kc.toArray 117)))
     refine hKK.out _ _ (KE.out _ RL.out) (fun hH2=> ?_)
     clear hKK KQ hH2;try simp only[Act.put,sA,sB,sC]
     generalize (U3.drew.alloc (.cells kc.toArray 117))=W4 at *
     generalize U3.drew.heap.size=blk at *
     have OE:=hq ((G.out.1.cmd.1).below (Below.and B3.out RL.out))
     have RM:Hid ((D.cs++(ts.take j).map Ct).length+1<=maxLen/\((D.cs++(ts.take j).map Ct).length+1)*40<=140737488355328):=by have:=LT.out;unfold maxLen;exact⟨by omega,by omega⟩
     refine wpAnyH_ready (rs:=[8]) (by kernel_rfl) (by simp) ?_
     refine AllReadyH.cons (o:=⟨_,_,_,_,_,_⟩) rfl (fun KQ hKK=> ?_) AllReadyH.nil
     refine(if_pos (show Region.wanted _ _=true by kernel_rfl)).mpr ?_
     refine DW W4 _ _ 33 rfl 0 117 i0 _ 5 40 Tryz.underlying33 hi0 hz0 hz1 hz2 rfl (by decide) (.slice a9 ln q9) (D.cs++(ts.take j).map Ct).length ((D.cs++(ts.take j).map Ct).map AM).flatten rfl OE.out (.slice (some ⟨blk,0,none⟩) 1 1) 1 kc rfl HR.out (by rw[hcl5]) ONC.out RM.out.1 RM.out.2 (Nat.zero_le _) ?_
     intro v' x AP;obtain⟨bx,kq,F5,g5⟩:=G.out.addC (fs:=[Ct ts[j]]) (Bo n) (Bp n) (Below.and B3.out RL.out) (by rw[List.map_singleton,List.flatten_singleton, ← KC.out];exact AP)
     have SX0:Ai 119 x wr.heap.size ks.toArray:=Al (XFH.out.step RL.out) AP.2.1 (fun e=>by have:=(G.out.2.1 _ (G.out.1.cmd.2 _ e)).2.1;omega)
     obtain⟨a8,q8,hv8⟩:=Ac.slice AP.1
     generalize hl8:(D.cs++(ts.take j).map Ct).length+1=ln8 at hv8
     subst hv8;have SX:Hid (x.rangeAt wr.heap.size 1 kc/\x.cell? ⟨X,3,none⟩=some (.slice a9 ln q9)):=⟨XR.out x SX0,(bx.cells 3).trans rfl⟩
     have FIN:Hid (NtG (De n) (Dh n) w0 W3 X Q5 sz rv av (x.setCell ⟨X,3,none⟩ (.slice a8 ln8 q8)) F5 (.slice (some ⟨g0,0,none⟩) D.ns.length p0) (.slice a8 ln8 q8) lv3 ⟨D.ns,D.rs,D.cs++(ts.take (j+1)).map Ct,D.ds,D.ls++nl⟩):=by
      have:=g5
      rw[List.append_assoc,show(ts.take j).map Ct++[Ct ts[j]]=(ts.take (j+1)).map Ct by rw[List.take_succ_eq_append_getElem hlt,List.map_append,List.map_singleton]] at this
      exact this
     have BX:=hq bx
     clear bx kq g5 AP OE LT RM HR LNH hl8 KE RL XR G B3 KC ONC HMC hk15 XFH SX0;refine hKK.out _ _ SX.out (fun hH2=> ?_)
     clear hKK KQ hH2;try simp only[Act.put,sA,sB,sC]
     refine tk 9 (oi:=⟨_,_,_,_,_,_⟩) (v:= ?_) rfl (by kernel_rfl) (fun _ _ _ h=>h) (Or.inl ⟨by rfl, ?_⟩) SX.out ?_
     rotate_left
     ·(intro u hu;obtain⟨s0,s1⟩:=hu;go_simp)
      try with_reducible rfl
     try simp only[Act.put,sA,sB,sC]
     refine tk 10 (oi:=⟨_,_,_,_,_,_⟩) (v:= ?_) rfl (by kernel_rfl) (fun _ _ _ h=>h) (Or.inl ⟨by rfl, ?_⟩) SX.out ?_
     rotate_left
     ·(intro u hu;obtain⟨s0,s1⟩:=hu;go_simp)
      try with_reducible rfl
     try simp only[Act.put,sA,sB,sC]
     clear SX;refine wpAnyH_done (by kernel_rfl) ?_ _
     show Oper.wp _ _ _ _ _ _
     have c5:=BX.out.cells
     have f5:∀q,x.frozen? ⟨X,q,none⟩=false:=fun q=>Ab BX.out
     go_wp2_with fail;go_roundw
     case rel=>exact⟨j+1,_,_,by omega,by go_num,FIN.out⟩
     case measure=>simp[intOf];omega
    ·have hjn:j=ts.length:=by omega
     subst hjn;have hi2:¬(ts.length:Int)<(ts.length:Int):=by omega
     rw[List.take_length] at G
     clear BS hi0 hz0 hz1 hz2 HA5 QY2;have KE:Hid (∀u,Below wr.heap.size wr u->(fun u:World=>u.rangeAt B 0 cs/\u.cell? ⟨X,1,none⟩=some (.slice (some ⟨g0,0,none⟩) D.ns.length p0)) u):=fun u hu=>by
      have g:=G.out.step (Bo n) (Bp n) hu
      exact⟨(NC.out u B (g.kept HQ5.out NB3.out)).1,(g.2.2.1.cells 1).trans rfl⟩
     go_upto_region 8 with fail
     have RL:Hid (Below wr.heap.size wr wr.drew):=(Below.refl _ _).drew
     refine BA (fun u:World=>u.rangeAt B 0 cs/\u.cell? ⟨X,1,none⟩=some (.slice (some ⟨g0,0,none⟩) D.ns.length p0)) [_,_,_,_,_,_,_,_] _ rfl (by kernel_rfl) (by kernel_rfl) ?_
     refine tk 0 (oi:=⟨_,_,_,_,_,_⟩) (v:= ?_) rfl (by kernel_rfl) (fun _ _ _ h=>h) (Or.inl ⟨by rfl, ?_⟩) (KE.out _ RL.out) ?_
     rotate_left
     ·(intro u hu;obtain⟨s0,s1⟩:=hu;go_simp)
      try with_reducible rfl
     try simp only[Act.put,sA,sB,sC]
     refine tk 1 (oi:=⟨_,_,_,_,_,_⟩) (v:= ?_) rfl (by kernel_rfl) (fun _ _ _ h=>h) (Or.inl ⟨by rfl, ?_⟩) (KE.out _ RL.out) ?_
     rotate_left
     ·(intro u hu;obtain⟨s0,s1⟩:=hu;go_simp)
      try with_reducible rfl
     try simp only[Act.put,sA,sB,sC]
     refine tk 2 (oi:=⟨_,_,_,_,_,_⟩) (v:= ?_) rfl (by kernel_rfl) (fun _ _ _ h=>h) (Or.inl ⟨by rfl, ?_⟩) (KE.out _ RL.out) ?_
     rotate_left
     ·(intro u hu;obtain⟨s0,s1⟩:=hu;go_simp)
      try with_reducible rfl
     try simp only[Act.put,sA,sB,sC]
     refine tk 3 (oi:=⟨_,_,_,_,_,_⟩) (v:= ?_) rfl (by kernel_rfl) (fun _ _ _ h=>h) (Or.inl ⟨by rfl, ?_⟩) (KE.out _ RL.out) ?_
     rotate_left
     ·(intro u hu;obtain⟨s0,s1⟩:=hu;go_simp)
      try with_reducible rfl
     try simp only[Act.put,sA,sB,sC]
     refine tk 4 (oi:=⟨_,_,_,_,_,_⟩) (v:= ?_) rfl (by kernel_rfl) (fun _ _ _ h=>h) (Or.inl ⟨by rfl, ?_⟩) (KE.out _ RL.out) ?_
     rotate_left
     ·(intro u hu;obtain⟨s0,s1⟩:=hu;go_simp)
      try with_reducible rfl
     try simp only[Act.put,sA,sB,sC]
     refine tk 5 (oi:=⟨_,_,_,_,_,_⟩) (v:= .agg (cs).toArray) rfl (by kernel_rfl) (fun _ _ _ h=>h) (yieldsIf_load_mid (by kernel_rfl) 73 _ rfl B 0 rfl (cs) _ (fun u hu=>hu.1) Tryz.underlying73 rfl HIN.out) (KE.out _ RL.out) ?_
     try simp only[Act.put,sA,sB,sC]
     refine wpAnyH_ready (rs:=[6]) (by kernel_rfl) (by simp) ?_
     refine AllReadyH.cons (o:=⟨_,_,_,_,_,_⟩) rfl (fun KQ hKK=> ?_) AllReadyH.nil
     refine(if_pos (show Region.wanted _ _=true by kernel_rfl)).mpr ?_
     refine Bm 83 _ _ rfl Ow _ rfl (CN.out _ (Below.and G.out.2.2.2.1 RL.out)) ?_
     rintro e w9 ⟨M,rfl,hM,hD,b9⟩
     obtain⟨F9,g9⟩:∃F9,∃g cap,Value.slice (some ⟨g0,0,none⟩) D.ns.length p0=Value.slice (some ⟨g,0,none⟩) D.ns.length cap/\w9.there g (i*23) 23/\NtG (De n) (Dh n) w0 W3 X Q5 sz rv av (w9.setCells g (i*23) (Ax (M,DN))) F9 (.slice (some ⟨g0,0,none⟩) D.ns.length p0) cv4 lv3 ⟨D.ns.set i (M,DN),D.rs,D.cs++ts.map Ct,D.ds,D.ls++nl⟩:=by
      obtain⟨g,cap,a1,a2,F9,a3⟩:=G.out.putN (f:=(M,DN)) (H:=fun q=>wr.heap.size<=q/\q<w9.heap.size) (Bo n) (Bp n) (Below.and RL.out b9) (Ck.own (FZ.h hD)) (fun _ h=>h) i HIL.out
      exact⟨F9,g,cap,a1,a2,a3⟩
     obtain⟨g,cap,hg,th,g9⟩:=g9
     simp only[Value.slice.injEq,Option.some.injEq,Addr.mk.injEq,and_true,true_and] at hg
     obtain⟨rfl,rfl⟩:=hg
     have LK:=hq (LIKE.out M hM)
     obtain⟨ms,hms⟩:∃ms:List Value,ms=Ax (M,DN):=⟨_,rfl⟩
     have VM:M.val= .agg ms.toArray:=by rw[hms];rfl
     have hml:ms.length=23:=by rw[hms];rfl
     have ONM:Hid (ms.toArray.all (·.oneCell')=true):=by rw[hms];exact Bq.ones (D:=DN) (D' :=DN) hD.at
     rw[←hms] at g9
     have G9:=hq g9
     have TH:Hid (w9.there g0 (i*23) ms.toArray.size):=by rw[List.size_toArray,hml];exact th
     have HIM:Hid ((Tryz.prog.info? 73).map (·.size)=some ms.toArray.size):=by show _=_;rw[List.size_toArray,hml];exact(show(Tryz.prog.info? 73).map (·.size)=some 23 by kernel_rfl)
     replace RL:=hq (Below.and RL.out b9)
     refine⟨_,rfl, ?_⟩
     rw[VM]
     clear VM b9 hD hM hml th g9 hms LIKE CN CB;refine hKK.out _ _ (KE.out _ RL.out) (fun hH2=> ?_)
     clear hKK KQ hH2;try simp only[Act.put,sA,sB,sC]
     refine tk 7 (oi:=⟨_,_,_,_,_,_⟩) (v:= ?_) rfl (by kernel_rfl) (fun _ _ _ h=>h) (Or.inl ⟨by rfl, ?_⟩) (KE.out _ RL.out) ?_
     rotate_left
     ·(intro u hu;obtain⟨s0,s1⟩:=hu;go_simp)
      try with_reducible rfl
     try simp only[Act.put,sA,sB,sC]
     refine wpAnyH_done (by kernel_rfl) ?_ _
     show Oper.wp _ _ _ _ _ _
     refine wp_store_mid 73 _ _ rfl g0 (i*23) ms.toArray rfl rfl TH.out HIM.out ONM.out ?_
     rw[List.toList_toArray]
     have RES:Hid (WrS (De n) (Dh n) (w9.setCells g0 (i*23) ms) F9 _ _/\(∀g,F9 g->w0.heap.size<=g/\g<(w9.setCells g0 (i*23) ms).heap.size/\g≠X)/\_/\_):=⟨G9.out.1,fun g hg=>⟨(G9.out.2.1 g hg).1,(G9.out.2.1 g hg).2.1,(G9.out.2.1 g hg).2.2.1⟩,G9.out.2.2.1,G9.out.2.2.2.1⟩
     clear G9 TH ONM RL KE G;generalize (w9.setCells g0 (i*23) ms)=WF at *
     go_wp2;exact bodyPost_end (v:= .tuple #[]) (by simp[results,Tryz.results66,go_sem]) rfl ⟨rfl,F9,_,_,_,_,LK.out,RES.out⟩
end
end Go.Proofs.YtkcaelfkcepdkaaGreat
